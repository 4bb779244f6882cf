/- Texts put together: Tul. -/
import Derived.Test.YtdpkhliojbeglaaDoorQAc
import Derived.Test.YtdpkhliojbeglaaDoorQY
/- The developers' kids. Stage 15. -/
namespace Go.Proofs.YtdpkhliojbeglaaDoor
open Go.RowKit BS

/-- Entries of kids. -/
def kidE (d : Int) (R : List (Nat × Nat × Nat)) : List EnN := R.map fun r => ⟨d, r.1, r.2.1, r.2.2⟩
theorem kidE_cons (d : Int) (r : Nat × Nat × Nat) (R : List (Nat × Nat × Nat)) : kidE d (r :: R) = ⟨d, r.1, r.2.1, r.2.2⟩ :: kidE d R := rfl
section
variable (l : List NdN) (c : Nat → Nat → Nat → Bool)
/-- A Star's kids, as spans. -/
def stR (p q j : Nat) : Nat → Nat → List (Nat × Nat × Nat)
  | 0, _ => []
  | m + 1, i => if i < j then (p, i, downB (fun k => c p i k && c q k j) j) :: stR p q j m (downB (fun k => c p i k && c q k j) j) else []
theorem roots_star (g : Nat → Nat → Fo) (p q j : Nat) : ∀ m i, rootsO (starG c g p q j m i) = stR c p q j m i
  | 0, _ => rfl
  | m + 1, i => by
    unfold starG stR
    by_cases h : i < j
    · rw [if_pos h, if_pos h, rootsO, roots_star g p q j m]
    · rw [if_neg h, if_neg h]; rfl
theorem stR_end (p q j m : Nat) : stR c p q j m j = [] := by
  cases m with
  | zero => rfl
  | succ m => unfold stR; rw [if_neg (Nat.lt_irrefl _)]
end
section
variable {l : List NdN} {c : Nat → Nat → Nat → Bool} {q i j : Nat}
theorem rk_0 (h : (ndE l q).kind = 1 ∨ (ndE l q).kind = 2) : rootsO (kidsG l c (q + 1) q i j) = [] := by
  unfold kidsG
  rw [if_neg (by omega), if_neg (by omega), if_neg (by omega), if_neg (by omega), if_neg (by omega)]; rfl
theorem rk_3 {a b : Nat} (h : (ndE l q).kind = 3) (ha : (ndE l q).kids = a) (hb : (ndE l q).n = b) : rootsO (kidsG l c (q + 1) q i j) = [(a, i, downB (fun m => c a i m && c b m j) j), (b, downB (fun m => c a i m && c b m j) j, j)] := by
  unfold kidsG
  rw [if_pos h, ha, hb, Int.toNat_natCast, Int.toNat_natCast]; rfl
theorem rk_4 {a b : Nat} (h : (ndE l q).kind = 4) (ha : (ndE l q).kids = a) (hb : (ndE l q).n = b) : rootsO (kidsG l c (q + 1) q i j) = if c a i j = true then [(a, i, j)] else [(b, i, j)] := by
  unfold kidsG
  rw [if_neg (by omega), if_pos h, ha, hb, Int.toNat_natCast, Int.toNat_natCast]
  split <;> rfl
theorem rk_5 {a : Nat} (h : (ndE l q).kind = 5) (ha : (ndE l q).kids = a) : rootsO (kidsG l c (q + 1) q i j) = stR c a q j (j - i) i := by
  unfold kidsG
  rw [if_neg (by omega), if_neg (by omega), if_pos h, ha, Int.toNat_natCast, roots_star]
theorem rk_6 {a : Nat} (h : (ndE l q).kind = 6) (ha : (ndE l q).kids = a) : rootsO (kidsG l c (q + 1) q i j) = if i < j then [(a, i, j)] else [] := by
  unfold kidsG
  rw [if_neg (by omega), if_neg (by omega), if_neg (by omega), if_pos h, ha, Int.toNat_natCast]
  split <;> rfl
theorem rk_7 {a : Nat} (h : (ndE l q).kind = 7 ∨ (ndE l q).kind = 8) (ha : (ndE l q).kids = a) : rootsO (kidsG l c (q + 1) q i j) = [(a, i, j)] := by
  unfold kidsG
  rw [if_neg (by omega), if_neg (by omega), if_neg (by omega), if_neg (by omega), if_pos (by omega), ha, Int.toNat_natCast]; rfl
end
theorem OwE.mono {b b' : Nat} {v : Value} {L : List EnN} {W : World} (h : OwE b v L W) (hb : b' ≤ b) : OwE b' v L W := by
  obtain ⟨h1, h2⟩ := h
  refine ⟨h1, h2.imp id fun h => ?_⟩
  obtain ⟨g, cap, cur, e, h3, h4⟩ := h
  exact ⟨g, cap, cur, e, by omega, h4⟩
theorem OwE.lastTo {b gg cap : Nat} {L : List EnN} {x : EnN} {W : World} (h : OwE b (.slice (some ⟨gg, 0, none⟩) (L.length + 1) cap) (L ++ [x]) W) : W.cell? ⟨gg, L.length * 4 + 3, none⟩ = some (.int .i64 x.to) := by
  have hl : (L ++ [x]).length = L.length + 1 := by simp
  unfold OwE at h
  rw [hl] at h
  refine (World.ownsRow.cellAt h (L.length * 4 + 3) (by omega)).trans ?_
  rw [enCells_get (L ++ [x]) L.length 3 (by omega) (by decide)]
  rw [List.getElem_append_right (by omega)]
  simp [enA]
def ULc (c : Nat → Value) : Nat → List Value → Value → Prop := fun i _ v => v = c i
def ULk (c : Nat → Value) : Nat → List Value → Value → Prop
  | 16, _, v => ∃ G : Nat, v = .slice (some ⟨G, 0, none⟩) 1 1
  | i, _, v => v = c i
def VLk (n1 : Nat) (cs : Array Value) : Nat → Value → World → Prop
  | 16, v, W => ∃ G : Nat, v = .slice (some ⟨G, 0, none⟩) 1 1 ∧ n1 ≤ G ∧ Blk W G cs 83
  | _, _, _ => True
theorem keepVLk (n1 : Nat) (cs : Array Value) : ∀ i v w w', Below w.heap.size w w' → VLk n1 cs i v w → VLk n1 cs i v w' := by
  intro i v w w' hb h
  unfold VLk at *
  split <;> simp only at h
  · obtain ⟨G, h1, h2, h3⟩ := h
    exact ⟨G, h1, h2, h3.below hb h3.lt⟩
  · trivial
theorem wp_made {P : Program} {o : Oper} {a : Act} {w w' : World} {v : Value} {K : Act → World → Prop} {Q : Exit → Act → World → Prop} (h : (execOp a.eval o).run P w = .ok (.value v) w') (hK : K (a.put o.dst v) w') : o.wp P a w K Q := by
  unfold Oper.wp; rw [h]; exact hK
/-- An entry that stands by itself is put behind a row. -/
theorem push_entX {base : Nat} {v : Value} {L : List EnN} {W : World} (h : OwE base v L W) (hb : base ≤ W.heap.size) (hn : L.length ≤ 1000000) (d n f e : Int) (G : Nat) (hG : Blk W G (enI d n f e) 83) (ty : TypeId) :
    ∃ g cap W2, (Builtin.append_ #[31, 31] ty #[v, .slice (some ⟨G, 0, none⟩) 1 1]).run Tryd.prog W = .ok (.slice (some ⟨g, 0, none⟩) (L.length + 1) cap) W2 ∧
      OwE base (.slice (some ⟨g, 0, none⟩) (L.length + 1) cap) (L ++ [⟨d, n, f, e⟩]) W2 ∧ W.grownBy W2 v.ownBlock ∧ (v.ownBlock = some g ∨ g = W.heap.size) ∧ g < W2.heap.size := by
  obtain ⟨i0, hinf, hzz⟩ := Option.map_eq_some_iff.1 infoE12
  simp only [Prod.mk.injEq] at hzz
  obtain ⟨hz0, hz1, hz2⟩ := hzz
  obtain ⟨g, cap, W2, hr, h2, h3, h4, h5⟩ := run_append_lies (P := Tryd.prog) W 31 ty base 83 i0 (.agg (enI 0 0 0 0)) 4 32 Tryd.underlying31 hinf hz0 hz1 hz2 rfl (by decide) v L.length _ h ⟨G, 0, none⟩ 1 1 [.int .i64 d, .int .i64 n, .int .i64 f, .int .i64 e] rfl hG.newsL (by simp [Value.oneCell']) (by decide) (by unfold maxLen; omega) (by omega) hb W.heap.size rfl
  exact ⟨g, cap, W2, hr, by unfold OwE; rw [List.length_append, enCells_app]; exact h2, h3, h4, h5⟩
/-- One entry that is made. -/
theorem one_ent (base : Nat) (W : World) (hb : base ≤ W.heap.size) (d n f e : Int) : OwE base (.slice (some ⟨W.heap.size, 0, none⟩) 1 1) [⟨d, n, f, e⟩] (W.alloc (.cells (enI d n f e) 83)) :=
  World.ownsRow_lit W (enI d n f e) 1 hb (by decide) rfl
theorem two_ent (base : Nat) (W : World) (hb : base ≤ W.heap.size) (d n f e d' n' f' e' : Int) : OwE base (.slice (some ⟨W.heap.size, 0, none⟩) 2 2) [⟨d, n, f, e⟩, ⟨d', n', f', e'⟩] (W.alloc (.cells #[.int .i64 d, .int .i64 n, .int .i64 f, .int .i64 e, .int .i64 d', .int .i64 n', .int .i64 f', .int .i64 e'] 83)) :=
  World.ownsRow_lit W #[.int .i64 d, .int .i64 n, .int .i64 f, .int .i64 e, .int .i64 d', .int .i64 n', .int .i64 f', .int .i64 e'] 2 hb (by decide) rfl
set_option maxRecDepth 100000 in
set_option maxHeartbeats 64000000 in
theorem kidsC_calls (l : List NdN) (hr : rightT l = true) (hl : l.length ≤ 1000) (w : List Nat) (hw : w.length ≤ 64) (B lcp wcp : Nat) (la wa : Option Addr) (q i j : Nat) (d : Int) (hd : 0 ≤ d ∧ d ≤ 100000) (hq : q < l.length) (hcan : canP l w q i j) (W : World) (hN : NodesAt l la W) (hR : RowD l.length B (stQ l w l.length) W) :
    Calls Tryd.prog 76 #[.agg (chA l.length w.length B lcp wcp la wa), .agg (enI d (q : Nat) (i : Nat) (j : Nat))] W fun e W' => ∃ v, e = .returned v ∧ OwE W.heap.size v (kidE (d + 1) (rootsO (kidsG l (canB l w) (q + 1) q i j))) W' ∧ Below W.heap.size W W' := by
  have hP := parts_ok l hr
  obtain ⟨hij, hjn⟩ := can_le hcan
  have hnd : ndE l q = l[q] := by simp [ndE, hq]
  have hnp := nodek_parts l hr q hq
  have hkk := hP.kind q hq
  have HB := Lib.hid (show Below W.heap.size W ((W.alloc (.cells (chA l.length w.length B lcp wcp la wa) 64)).alloc (.cells (enI d (q : Nat) (i : Nat) (j : Nat)) 83)) by go_grown)
  have b0 := (Blk.new W (chA l.length w.length B lcp wcp la wa) 64).alloc (.cells (enI d (q : Nat) (i : Nat) (j : Nat)) 83)
  have b1 := Blk.new (W.alloc (.cells (chA l.length w.length B lcp wcp la wa) 64)) (enI d (q : Nat) (i : Nat) (j : Nat)) 83
  rw [World.size_alloc] at b1
  have hz : ((W.alloc (.cells (chA l.length w.length B lcp wcp la wa) 64)).alloc (.cells (enI d (q : Nat) (i : Nat) (j : Nat)) 83)).heap.size = W.heap.size + 1 + 1 := by simp only [World.size_alloc]
  obtain ⟨g, off, rfl, hg, hc⟩ := hN (by rintro rfl; simp at hq)
  obtain ⟨k, a, b, m, s, hx⟩ : ∃ k a b m s, l[q] = (⟨k, a, b, m, s⟩ : NdN) := ⟨_, _, _, _, _, rfl⟩
  have cc := fun (x : Nat) (hx : x < 8) => (HB.out.cell (p := ⟨g, off + q * 8 + x, none⟩) hg).trans (hc q hq x hx)
  rw [hx] at cc hnd hnp
  rw [hnd] at hkk
  simp only at hnp hkk
  have c0 := cc 0 (by decide); have c1 := cc 1 (by decide); have c2 := cc 2 (by decide); have c3 := cc 3 (by decide); have c4 := cc 4 (by decide); have c5 := cc 5 (by decide); have c6 := cc 6 (by decide); have c7 := cc 7 (by decide)
  simp only [ndA, List.getElem?_toArray, List.getElem?_cons_zero, List.getElem?_cons_succ, Nat.add_zero] at c0 c1 c2 c3 c4 c5 c6 c7
  have hnI : (q : Int) < (l.length : Int) := by omega
  have hnd2 : decide (q < l.length) = true := decide_eq_true hq
  have hmf : ∀ w', (Instr.makeFunc (.func 94) #[] #[.pointer (some ⟨W.heap.size + 1, 0, none⟩)]).run Tryd.prog w' = .ok (.func (.func 94) #[] #[.pointer (some ⟨W.heap.size + 1, 0, none⟩)]) w' := fun w' => rfl
  have HND := Lib.hid hnd
  have HP := Lib.hid hP
  have HP0 := Lib.hid b0
  have HP1 := Lib.hid b1
  have HR := Lib.hid (hR.below HB.out)
  have HC := Lib.hid hcan
  have hg1 : g < ((W.alloc (.cells (chA l.length w.length B lcp wcp (some ⟨g, off, none⟩) wa) 64)).alloc (.cells (enI d (q : Nat) (i : Nat) (j : Nat)) 83)).heap.size := by omega
  obtain ⟨RK, hRK⟩ : ∃ R, rootsO (kidsG l (canB l w) (q + 1) q i j) = R := ⟨_, rfl⟩
  rw [hRK]
  have HRK := Lib.hid hRK
  clear hRK hc cc hR hcan hnd hx hP
  go_enter Tryd.func76, Tryd.ntmps76
  go_upto_region 1 with fail
  generalize (W.alloc (.cells (chA l.length w.length B lcp wcp (some ⟨g, off, none⟩) wa) 64)).alloc (.cells (enI d (q : Nat) (i : Nat) (j : Nat)) 83) = w1 at *
  obtain ⟨u0, u1, u2⟩ := blk3 HP0.out
  have e1 := HP1.out.cell 1
  simp only [List.getElem?_toArray, List.getElem?_cons_zero, List.getElem?_cons_succ] at e1
  go_upto_region 3 with fail
  have b2 := Blk.new w1 (ndI k a b m s) 60
  rw [hz] at b2
  have hb12 : Below w1.heap.size w1 (w1.alloc (.cells (ndI k a b m s) 60)) := by go_grown
  have hz2 : (w1.alloc (.cells (ndI k a b m s) 60)).heap.size = W.heap.size + 3 := by rw [World.size_alloc, hz]
  have HP02 := Lib.hid (HP0.out.below hb12 (by omega))
  have HP12 := Lib.hid (HP1.out.below hb12 (by omega))
  have HP22 := Lib.hid b2
  have HB2 := Lib.hid (HB.out.trans (hb12.mono (by omega)))
  have HR2 := Lib.hid (HR.out.below hb12)
  clear b2 hb12 c0 c1 c2 c3 c4 c5 c6 c7 u0 u1 u2 e1 hg1 hg hnI hnd2 HB HR HP0 HP1
  generalize w1.alloc (.cells (ndI k a b m s) 60) = w2 at *
  have HFA := Lib.hid (show ∀ W', Below w2.heap.size w2 W' → (W'.cell? ⟨W.heap.size, 0, none⟩ = some (.slice (some ⟨g, off, none⟩) l.length lcp) ∧ W'.cell? ⟨W.heap.size, 1, none⟩ = some (.slice wa w.length wcp) ∧ W'.cell? ⟨W.heap.size, 2, none⟩ = some (.slice (some ⟨B, 0, none⟩) l.length l.length)) ∧
      (W'.cell? ⟨W.heap.size + 1, 0, none⟩ = some (.int .i64 d) ∧ W'.cell? ⟨W.heap.size + 1, 1, none⟩ = some (.int .i64 (q : Nat)) ∧ W'.cell? ⟨W.heap.size + 1, 2, none⟩ = some (.int .i64 (i : Nat)) ∧ W'.cell? ⟨W.heap.size + 1, 3, none⟩ = some (.int .i64 (j : Nat))) ∧
      W'.cell? ⟨W.heap.size + 1 + 1, 0, none⟩ = some (.int .i64 k) ∧ W'.cell? ⟨W.heap.size + 1 + 1, 1, none⟩ = some (.int .i64 a) ∧ W'.cell? ⟨W.heap.size + 1 + 1, 2, none⟩ = some (.int .i64 b) from fun W' hW => by
    have g1 := HP12.out.below hW (by omega)
    have g2 := HP22.out.below hW (by omega)
    exact ⟨blk3 (HP02.out.below hW (by omega)), ⟨g1.cell 0, g1.cell 1, g1.cell 2, g1.cell 3⟩, g2.cell 0, g2.cell 1, g2.cell 2⟩)
  have HKID := Lib.hid (fun (x f t : Nat) (W' : World) (hS : Below w2.heap.size w2 W') => kid_calls (W.heap.size + 1) d x f t (by omega) W' (by have := hS.size; omega) (HFA.out W' hS).2.1.1)
  obtain ⟨⟨u0, u1, u2⟩, ⟨e0, e1, e2, e3⟩, t0, t1, t2⟩ := HFA.out w2 (Below.refl _ _)
  have hw256 : w.length < 256 := by omega
  have HCI := Lib.hid (fun (q' i' j' : Nat) (h1 : q' < l.length) (h2 : i' ≤ j') (h3 : j' ≤ w.length) => can_iff (w := w) HP.out q' i' j' h1 h2 h3)
  rcases hnp with ⟨hpc, rfl, rfl, _⟩ | ⟨pa, hpc, rfl, rfl, ha, _⟩ | ⟨pa, pb, hpc, rfl, rfl, hb, _, _, ha⟩
  · have h12 : k = 1 ∨ k = 2 := by
      unfold pcT at hpc
      split at hpc
      · omega
      · split at hpc <;> omega
    have HE := Lib.hid (show RK = [] by rw [← HRK.out]; exact rk_0 (by rw [HND.out]; exact h12))
    rcases h12 with rfl | rfl
    all_goals
      go_wp2_with fail
      go_ret
      rw [HE.out]
      exact ⟨_, rfl, OwE.nil _ _, HB2.out⟩
  · have h58 : k = 5 ∨ k = 6 ∨ k = 7 ∨ k = 8 := by
      unfold pcT at hpc
      split at hpc
      · omega
      · split at hpc <;> omega
    rcases h58 with rfl | rfl | rfl | rfl
    · -- Star
      have HE := Lib.hid (show RK = stR (canB l w) pa q j (j - i) i by rw [← HRK.out]; exact rk_5 (by rw [HND.out]) (by rw [HND.out]))
      have hqj : q < l.length := hq
      go_wp2_with fail
      go_loopw [8, 9] (fun v8 v9 wr => ∃ (at_ m : Nat) (L : List EnN), v9 = .int .i64 at_ ∧ i ≤ at_ ∧ at_ ≤ j ∧ j - at_ ≤ m ∧ canP l w q at_ j ∧ kidE (d + 1) RK = L ++ kidE (d + 1) (stR (canB l w) pa q j m at_) ∧ OwE w2.heap.size v8 L wr ∧ Below w2.heap.size w2 wr ∧ L.length ≤ at_ - i) (fun _ v9 _ => j - (intOf v9).toNat)
      case atStart => exact ⟨i, j - i, [], rfl, Nat.le_refl _, hij, Nat.le_refl _, HC.out, by rw [HE.out]; rfl, OwE.nil _ _, Below.refl _ _, Nat.zero_le _⟩
      case round =>
        obtain ⟨at_, m', L, rfl, hia, haj, hm, hcp, hke, ho, hB, hLl⟩ := hrel
        have HBr := Lib.hid hB
        have HO := Lib.hid ho
        have HKE := Lib.hid hke
        obtain ⟨⟨u0, u1, u2⟩, ⟨e0, e1, e2, e3⟩, t0, t1, t2⟩ := HFA.out wr hB
        by_cases hlt : at_ < j
        · have p2 : decide (at_ < j) = true := decide_eq_true hlt
          have p4 : (at_ : Int) < (j : Int) := by omega
          have p5 : decide ((at_ : Int) < (j : Int)) = true := decide_eq_true p4
          obtain ⟨m0, hm0, hm1, hm2⟩ := ((can_5 (by rw [HND.out]) (by rw [HND.out]) haj hjn).1 hcp).resolve_left (by omega)
          have hl1 := can_le hm1
          have hl2 := can_le hm2
          have hcc : (canB l w pa at_ m0 && canB l w q m0 j) = true := by rw [(HCI.out pa at_ m0 (by omega) hl1.1 hl1.2).2 hm1, (HCI.out q m0 j hq hl2.1 hjn).2 hm2]; rfl
          have hR2 := HR2.out
          have HSP := Lib.hid (fun (w' : World) (hS : Below wr.heap.size wr w') => split_calls l hl w hw B lcp wcp (some ⟨g, off, none⟩) wa pa q at_ j (by omega) hq hjn ⟨m0, hl1.1, hl2.1, hcc⟩ w' ((hR2.below HBr.out).below hS))
          obtain ⟨m1, rfl⟩ : ∃ m1, m' = m1 + 1 := ⟨m' - 1, by omega⟩
          have hst : stR (canB l w) pa q j (m1 + 1) at_ = (pa, at_, downB (fun k => canB l w pa at_ k && canB l w q k j) j) :: stR (canB l w) pa q j m1 (downB (fun k => canB l w pa at_ k && canB l w q k j) j) := by rw [stR, if_pos hlt]
          obtain ⟨hge, hdc⟩ := down_ge (fun k => canB l w pa at_ k && canB l w q k j) j m0 hl2.1 hcc
          have hdl := down_le (fun k => canB l w pa at_ k && canB l w q k j) j
          rw [hst] at hke
          have hdc' : (canB l w pa at_ (downB (fun k => canB l w pa at_ k && canB l w q k j) j) && canB l w q (downB (fun k => canB l w pa at_ k && canB l w q k j) j) j) = true := hdc
          rw [Bool.and_eq_true] at hdc'
          have HCD := Lib.hid ((HCI.out q _ j hq hdl hjn).1 hdc'.2)
          clear hdc hdc' hst hcc hl1 hl2 hm1 hm2 hcp HKE hR2
          generalize downB (fun k => canB l w pa at_ k && canB l w q k j) j = D at *
          have HKE := Lib.hid hke
          clear hke hB ho
          have HFA := Lib.hid (fun (W' : World) (h : Below wr.heap.size wr W') => HFA.out W' (HBr.out.trans (h.mono HBr.out.size)))
          have HKID := Lib.hid (fun (x f t : Nat) (W' : World) (h : Below wr.heap.size wr W') => HKID.out x f t W' (HBr.out.trans (h.mono HBr.out.size)))
          obtain ⟨va, vc, rfl⟩ := HO.out.form
          go_upto_region 15 with fail
          refine region_stepsRT (S := fun W' => Below wr.heap.size wr W') (U := ULk (fun q' => match q' with | 0 => .slice va L.length vc | 1 => .func (.func 94) #[] #[.pointer (some ⟨W.heap.size + 1, 0, none⟩)] | 2 => .pointer (some ⟨W.heap.size + 1 + 1, 1, none⟩) | 3 => .int .i64 (pa : Nat) | 4 => .int .i64 (at_ : Nat) | 5 => .agg (chA l.length w.length B lcp wcp (some ⟨g, off, none⟩) wa) | 6 => .pointer (some ⟨W.heap.size + 1 + 1, 1, none⟩) | 7 => .int .i64 (pa : Nat) | 8 => .pointer (some ⟨W.heap.size + 1, 1, none⟩) | 9 => .int .i64 (q : Nat) | 10 => .int .i64 (at_ : Nat) | 11 => .pointer (some ⟨W.heap.size + 1, 3, none⟩) | 12 => .int .i64 (j : Nat) | 13 => .agg #[.int .i64 (at_ : Nat), .int .i64 (j : Nat)] | 14 => .int .i64 (D : Nat) | 15 => .agg (enI (d + 1) (pa : Nat) (at_ : Nat) (D : Nat)) | _ => undef)) (V := VLk wr.heap.size (enI (d + 1) (pa : Nat) (at_ : Nat) (D : Nat))) (m := 17) (n := 17) (r := 2) rfl (by kernel_rfl) (fun _ _ hb hs => hs.trans (hb.mono hs.size)) (keepVLk _ _) (by kernel_rfl) ((Below.refl _ _).drew) ?_
          simp only [List.size_toArray, List.length_cons, List.length_nil, Nat.reduceAdd, Array.replicate_succ, Array.replicate_zero, List.push_toArray, List.nil_append, List.cons_append]
          refine AnyRT.step (m := 17) (i := 0) (d := some 82) [0] rfl rfl (by kernel_rfl) (by kernel_rfl) (by kernel_rfl) (by kernel_rfl) (by kernel_rfl) ?_ ?_ ?_
          · exact ⟨_, rfl⟩
          · refine StepsR.yield (.slice va L.length vc) rfl (by kernel_rfl) (fun w' hS hD => ⟨?_, trivial⟩)
            clear hS hD; go_simp
            try rfl
          intro v' hv' a' ha'
          have hv' : .slice va L.length vc = v' := Eq.symm hv'
          subst hv'
          simp only [Act.put, List.setIfInBounds_toArray, List.set_cons_zero, List.set_cons_succ] at ha'
          subst ha'
          refine AnyRT.step (m := 17) (i := 1) (d := some 83) [16, 15, 1] rfl rfl (by kernel_rfl) (by kernel_rfl) (by kernel_rfl) (by kernel_rfl) (by kernel_rfl) ?_ ?_ ?_
          · exact ⟨_, rfl⟩
          · refine StepsR.yield (.func (.func 94) #[] #[.pointer (some ⟨W.heap.size + 1, 0, none⟩)]) rfl (by kernel_rfl) (fun w' hS hD => ⟨?_, trivial⟩)
            clear hS hD; go_simp
            try rfl
          intro v' hv' a' ha'
          have hv' : .func (.func 94) #[] #[.pointer (some ⟨W.heap.size + 1, 0, none⟩)] = v' := Eq.symm hv'
          subst hv'
          simp only [Act.put, List.setIfInBounds_toArray, List.set_cons_zero, List.set_cons_succ] at ha'
          subst ha'
          refine AnyRT.step (m := 17) (i := 2) (d := some 84) [16, 15, 3, 2] rfl rfl (by kernel_rfl) (by kernel_rfl) (by kernel_rfl) (by kernel_rfl) (by kernel_rfl) ?_ ?_ ?_
          · exact ⟨_, rfl⟩
          · refine StepsR.yield (.pointer (some ⟨W.heap.size + 1 + 1, 1, none⟩)) rfl (by kernel_rfl) (fun w' hS hD => ⟨?_, trivial⟩)
            clear hS hD; go_simp
            try rfl
          intro v' hv' a' ha'
          have hv' : .pointer (some ⟨W.heap.size + 1 + 1, 1, none⟩) = v' := Eq.symm hv'
          subst hv'
          simp only [Act.put, List.setIfInBounds_toArray, List.set_cons_zero, List.set_cons_succ] at ha'
          subst ha'
          refine AnyRT.step (m := 17) (i := 3) (d := some 85) [16, 15, 3] rfl rfl (by kernel_rfl) (by kernel_rfl) (by kernel_rfl) (by kernel_rfl) (by kernel_rfl) ?_ ?_ ?_
          · exact ⟨_, rfl⟩
          · refine StepsR.yield (.int .i64 (pa : Nat)) rfl (by kernel_rfl) (fun w' hS hD => ⟨?_, trivial⟩)
            obtain ⟨⟨u0, u1, u2⟩, ⟨e0, e1, e2, e3⟩, t0, t1, t2⟩ := HFA.out w' hS; clear hS hD; go_simp
            try rfl
          intro v' hv' a' ha'
          have hv' : .int .i64 (pa : Nat) = v' := Eq.symm hv'
          subst hv'
          simp only [Act.put, List.setIfInBounds_toArray, List.set_cons_zero, List.set_cons_succ] at ha'
          subst ha'
          refine AnyRT.step (m := 17) (i := 4) (d := some 86) [16, 15, 4] rfl rfl (by kernel_rfl) (by kernel_rfl) (by kernel_rfl) (by kernel_rfl) (by kernel_rfl) ?_ ?_ ?_
          · exact ⟨_, rfl⟩
          · refine StepsR.yield (.int .i64 (at_ : Nat)) rfl (by kernel_rfl) (fun w' hS hD => ⟨?_, trivial⟩)
            clear hS hD; go_simp
            try rfl
          intro v' hv' a' ha'
          have hv' : .int .i64 (at_ : Nat) = v' := Eq.symm hv'
          subst hv'
          simp only [Act.put, List.setIfInBounds_toArray, List.set_cons_zero, List.set_cons_succ] at ha'
          subst ha'
          refine AnyRT.step (m := 17) (i := 5) (d := some 87) [16, 15, 14, 5] rfl rfl (by kernel_rfl) (by kernel_rfl) (by kernel_rfl) (by kernel_rfl) (by kernel_rfl) ?_ ?_ ?_
          · exact ⟨_, rfl⟩
          · refine StepsR.yield (.agg (chA l.length w.length B lcp wcp (some ⟨g, off, none⟩) wa)) rfl (by kernel_rfl) (fun w' hS hD => ⟨?_, trivial⟩)
            obtain ⟨⟨u0, u1, u2⟩, ⟨e0, e1, e2, e3⟩, t0, t1, t2⟩ := HFA.out w' hS; clear hS hD; go_simp
            try rfl
          intro v' hv' a' ha'
          have hv' : .agg (chA l.length w.length B lcp wcp (some ⟨g, off, none⟩) wa) = v' := Eq.symm hv'
          subst hv'
          simp only [Act.put, List.setIfInBounds_toArray, List.set_cons_zero, List.set_cons_succ] at ha'
          subst ha'
          refine AnyRT.step (m := 17) (i := 6) (d := some 88) [16, 15, 14, 7, 6] rfl rfl (by kernel_rfl) (by kernel_rfl) (by kernel_rfl) (by kernel_rfl) (by kernel_rfl) ?_ ?_ ?_
          · exact ⟨_, rfl⟩
          · refine StepsR.yield (.pointer (some ⟨W.heap.size + 1 + 1, 1, none⟩)) rfl (by kernel_rfl) (fun w' hS hD => ⟨?_, trivial⟩)
            clear hS hD; go_simp
            try rfl
          intro v' hv' a' ha'
          have hv' : .pointer (some ⟨W.heap.size + 1 + 1, 1, none⟩) = v' := Eq.symm hv'
          subst hv'
          simp only [Act.put, List.setIfInBounds_toArray, List.set_cons_zero, List.set_cons_succ] at ha'
          subst ha'
          refine AnyRT.step (m := 17) (i := 7) (d := some 89) [16, 15, 14, 7] rfl rfl (by kernel_rfl) (by kernel_rfl) (by kernel_rfl) (by kernel_rfl) (by kernel_rfl) ?_ ?_ ?_
          · exact ⟨_, rfl⟩
          · refine StepsR.yield (.int .i64 (pa : Nat)) rfl (by kernel_rfl) (fun w' hS hD => ⟨?_, trivial⟩)
            obtain ⟨⟨u0, u1, u2⟩, ⟨e0, e1, e2, e3⟩, t0, t1, t2⟩ := HFA.out w' hS; clear hS hD; go_simp
            try rfl
          intro v' hv' a' ha'
          have hv' : .int .i64 (pa : Nat) = v' := Eq.symm hv'
          subst hv'
          simp only [Act.put, List.setIfInBounds_toArray, List.set_cons_zero, List.set_cons_succ] at ha'
          subst ha'
          refine AnyRT.step (m := 17) (i := 8) (d := some 90) [16, 15, 14, 9, 8] rfl rfl (by kernel_rfl) (by kernel_rfl) (by kernel_rfl) (by kernel_rfl) (by kernel_rfl) ?_ ?_ ?_
          · exact ⟨_, rfl⟩
          · refine StepsR.yield (.pointer (some ⟨W.heap.size + 1, 1, none⟩)) rfl (by kernel_rfl) (fun w' hS hD => ⟨?_, trivial⟩)
            clear hS hD; go_simp
            try rfl
          intro v' hv' a' ha'
          have hv' : .pointer (some ⟨W.heap.size + 1, 1, none⟩) = v' := Eq.symm hv'
          subst hv'
          simp only [Act.put, List.setIfInBounds_toArray, List.set_cons_zero, List.set_cons_succ] at ha'
          subst ha'
          refine AnyRT.step (m := 17) (i := 9) (d := some 91) [16, 15, 14, 9] rfl rfl (by kernel_rfl) (by kernel_rfl) (by kernel_rfl) (by kernel_rfl) (by kernel_rfl) ?_ ?_ ?_
          · exact ⟨_, rfl⟩
          · refine StepsR.yield (.int .i64 (q : Nat)) rfl (by kernel_rfl) (fun w' hS hD => ⟨?_, trivial⟩)
            obtain ⟨⟨u0, u1, u2⟩, ⟨e0, e1, e2, e3⟩, t0, t1, t2⟩ := HFA.out w' hS; clear hS hD; go_simp
            try rfl
          intro v' hv' a' ha'
          have hv' : .int .i64 (q : Nat) = v' := Eq.symm hv'
          subst hv'
          simp only [Act.put, List.setIfInBounds_toArray, List.set_cons_zero, List.set_cons_succ] at ha'
          subst ha'
          refine AnyRT.step (m := 17) (i := 10) (d := some 92) [16, 15, 14, 13, 10] rfl rfl (by kernel_rfl) (by kernel_rfl) (by kernel_rfl) (by kernel_rfl) (by kernel_rfl) ?_ ?_ ?_
          · exact ⟨_, rfl⟩
          · refine StepsR.yield (.int .i64 (at_ : Nat)) rfl (by kernel_rfl) (fun w' hS hD => ⟨?_, trivial⟩)
            clear hS hD; go_simp
            try rfl
          intro v' hv' a' ha'
          have hv' : .int .i64 (at_ : Nat) = v' := Eq.symm hv'
          subst hv'
          simp only [Act.put, List.setIfInBounds_toArray, List.set_cons_zero, List.set_cons_succ] at ha'
          subst ha'
          refine AnyRT.step (m := 17) (i := 11) (d := some 93) [16, 15, 14, 13, 12, 11] rfl rfl (by kernel_rfl) (by kernel_rfl) (by kernel_rfl) (by kernel_rfl) (by kernel_rfl) ?_ ?_ ?_
          · exact ⟨_, rfl⟩
          · refine StepsR.yield (.pointer (some ⟨W.heap.size + 1, 3, none⟩)) rfl (by kernel_rfl) (fun w' hS hD => ⟨?_, trivial⟩)
            clear hS hD; go_simp
            try rfl
          intro v' hv' a' ha'
          have hv' : .pointer (some ⟨W.heap.size + 1, 3, none⟩) = v' := Eq.symm hv'
          subst hv'
          simp only [Act.put, List.setIfInBounds_toArray, List.set_cons_zero, List.set_cons_succ] at ha'
          subst ha'
          refine AnyRT.step (m := 17) (i := 12) (d := some 94) [16, 15, 14, 13, 12] rfl rfl (by kernel_rfl) (by kernel_rfl) (by kernel_rfl) (by kernel_rfl) (by kernel_rfl) ?_ ?_ ?_
          · exact ⟨_, rfl⟩
          · refine StepsR.yield (.int .i64 (j : Nat)) rfl (by kernel_rfl) (fun w' hS hD => ⟨?_, trivial⟩)
            obtain ⟨⟨u0, u1, u2⟩, ⟨e0, e1, e2, e3⟩, t0, t1, t2⟩ := HFA.out w' hS; clear hS hD; go_simp
            try rfl
          intro v' hv' a' ha'
          have hv' : .int .i64 (j : Nat) = v' := Eq.symm hv'
          subst hv'
          simp only [Act.put, List.setIfInBounds_toArray, List.set_cons_zero, List.set_cons_succ] at ha'
          subst ha'
          refine AnyRT.step (m := 17) (i := 13) (d := some 95) [16, 15, 14, 13] rfl rfl (by kernel_rfl) (by kernel_rfl) (by kernel_rfl) (by kernel_rfl) (by kernel_rfl) ?_ ?_ ?_
          · exact ⟨_, rfl⟩
          · refine StepsR.yield (.agg #[.int .i64 (at_ : Nat), .int .i64 (j : Nat)]) rfl (by kernel_rfl) (fun w' hS hD => ⟨?_, trivial⟩)
            clear hS hD; go_simp
            try rfl
          intro v' hv' a' ha'
          have hv' : .agg #[.int .i64 (at_ : Nat), .int .i64 (j : Nat)] = v' := Eq.symm hv'
          subst hv'
          simp only [Act.put, List.setIfInBounds_toArray, List.set_cons_zero, List.set_cons_succ] at ha'
          subst ha'
          refine AnyRT.step (m := 17) (i := 14) (d := some 96) [16, 15, 14] rfl rfl (by kernel_rfl) (by kernel_rfl) (by kernel_rfl) (by kernel_rfl) (by kernel_rfl) ?_ ?_ ?_
          · exact ⟨_, rfl⟩
          · refine StepsR.call (by kernel_rfl) (fun w' hS => by clear hS; go_simp) (fun w' hS hD => (HSP.out w' hS).mono ?_)
            rintro e w'' ⟨rfl, hb⟩
            exact ⟨_, rfl, rfl, trivial, hb⟩
          intro v' hv' a' ha'
          have hv' : .int .i64 (D : Nat) = v' := Eq.symm hv'
          subst hv'
          simp only [Act.put, List.setIfInBounds_toArray, List.set_cons_zero, List.set_cons_succ] at ha'
          subst ha'
          refine AnyRT.step (m := 17) (i := 15) (d := some 97) [16, 15] rfl rfl (by kernel_rfl) (by kernel_rfl) (by kernel_rfl) (by kernel_rfl) (by kernel_rfl) ?_ ?_ ?_
          · exact ⟨_, rfl⟩
          · refine StepsR.call (by kernel_rfl) (fun w' hS => by clear hS; go_simp) (fun w' hS hD => (HKID.out pa at_ D w' hS).mono ?_)
            rintro e w'' ⟨rfl, hb⟩
            exact ⟨_, rfl, rfl, trivial, hb⟩
          intro v' hv' a' ha'
          have hv' : .agg (enI (d + 1) (pa : Nat) (at_ : Nat) (D : Nat)) = v' := Eq.symm hv'
          subst hv'
          simp only [Act.put, List.setIfInBounds_toArray, List.set_cons_zero, List.set_cons_succ] at ha'
          subst ha'
          refine AnyRT.step (m := 17) (i := 16) (d := some 98) [16] rfl rfl (by kernel_rfl) (by kernel_rfl) (by kernel_rfl) (by kernel_rfl) (by kernel_rfl) ?_ ?_ ?_
          · exact ⟨.slice (some ⟨0, 0, none⟩) 1 1, 0, rfl⟩
          · refine StepsR.made (by kernel_rfl) (fun w' hS hD => ?_)
            refine ⟨.slice (some ⟨w'.heap.size, 0, none⟩) 1 1, w'.alloc (.cells (enI (d + 1) (pa : Nat) (at_ : Nat) (D : Nat)) 83), ?_, ⟨_, rfl⟩, ⟨_, rfl, hS.size, Blk.new w' _ _⟩, (Below.refl _ _).alloc (Nat.le_refl _) _⟩
            clear hS hD
            go_simp
            try rfl
          rintro v' ⟨G16, rfl⟩ a' ha'
          simp only [Act.put, List.setIfInBounds_toArray, List.set_cons_zero, List.set_cons_succ] at ha'
          subst ha'
          refine AnyRT.last (by kernel_rfl) (fun w9 hS hF => ?_)
          have h16 := hF 16 _ 98 (by kernel_rfl) rfl rfl
          obtain ⟨G', e16, k1, k2⟩ := h16
          have e16' : Value.slice (some ⟨G16, 0, none⟩) 1 1 = .slice (some ⟨G', 0, none⟩) 1 1 := e16
          cases e16'
          have hz9 : wr.heap.size ≤ w9.heap.size := hS.size
          have hw2r := HBr.out.size
          obtain ⟨gg, cap, W2, hrun, ho2, hgr, hat, hgl⟩ := push_entX (HO.out.below hS) (by omega) (by omega) (d + 1) (pa : Nat) (at_ : Nat) (D : Nat) G16 k2 31
          have hb9 : Below w2.heap.size w2 w9 := HBr.out.trans (hS.mono HBr.out.size)
          have HB12 := Lib.hid (hb9.grown hgr (by omega) (fun k e => (HO.out.lt e).1))
          have HO2 := Lib.hid ho2
          have hcl := ho2.lastTo
          simp only at hcl
          have xl : IntKind.i64.wrap ((L.length : Int) + 1 - 1) = (L.length : Int) := by rw [show (L.length : Int) + 1 - 1 = L.length by omega]; exact IntWalk.i64_in _ (by omega)
          have HLL : Hid ((L ++ [(⟨d + 1, pa, at_, D⟩ : EnN)]).length = L.length + 1) := Lib.hid (by simp)
          clear hS hF e16 k1 k2 hgr hat ho2 hb9
          refine wpAny_one (i := 17) (o := ⟨some 99, _, _, _, _, _⟩) (by kernel_rfl) rfl (by kernel_rfl) ?_
          refine wp_made (exec_appN rfl rfl rfl hrun) ?_
          refine wpAny_one (i := 18) (o := ⟨some 8, .assign (.tmp 99), _, _, _, _⟩) (by kernel_rfl) rfl (by kernel_rfl) ?_
          clear hrun
          show wpAny Tryd.prog _ _ _ 0 _ (Act.put _ (some 8) (.slice (some ⟨gg, 0, none⟩) (L.length + 1) cap)) W2
          refine wpAny_none (P := Tryd.prog) (by kernel_rfl) ?_
          simp only [Act.put, List.setIfInBounds_toArray, List.set_cons_zero, List.set_cons_succ]
          go_wp2_with fail
          go_roundw
          case rel =>
            refine ⟨D, m1, L ++ [(⟨d + 1, pa, at_, D⟩ : EnN)], rfl, by omega, by omega, by omega, HCD.out, ?_, HO2.out, HB12.out, by rw [HLL.out]; omega⟩
            rw [HKE.out, kidE_cons, List.append_assoc]; rfl
          case measure => simp [intOf]; omega
        · obtain rfl : at_ = j := by omega
          have hend := HKE.out
          rw [stR_end, show kidE (d + 1) [] = [] from rfl, List.append_nil] at hend
          have HEN := Lib.hid hend
          have HBW := Lib.hid (HB2.out.trans (hB.mono (by omega)))
          clear hend hke hB
          obtain ⟨va, vc, rfl⟩ := ho.form
          go_wp2_with fail
          go_ret
          rw [HEN.out]
          exact ⟨_, rfl, HO.out.mono (by omega), HBW.out⟩
    · -- Maybe
      by_cases hlt : i < j
      · have HE := Lib.hid (show RK = [(pa, i, j)] by rw [← HRK.out, rk_6 (by rw [HND.out]) (by rw [HND.out]), if_pos hlt])
        have p1 : ((i : Int) == (j : Int)) = false := by rw [beq_eq_false_iff_ne]; omega
        have p2 : decide (i = j) = false := decide_eq_false (by omega)
        go_wp2_with fail
        refine (HKID.out pa i j _ (Below.refl _ _)).mono ?_
        rintro e w4 ⟨rfl, hb4⟩
        have HB4 := Lib.hid (HB2.out.trans (hb4.mono (by omega)))
        have HO4 := Lib.hid (one_ent W.heap.size w4 (by have := hb4.size; omega) (d + 1) (pa : Nat) (i : Nat) (j : Nat))
        have HB5 := Lib.hid (HB4.out.alloc HB4.out.size (.cells (enI (d + 1) (pa : Nat) (i : Nat) (j : Nat)) 83))
        clear hb4
        go_wp2_with fail
        go_ret
        rw [HE.out]
        exact ⟨_, rfl, HO4.out, HB5.out⟩
      · have HE := Lib.hid (show RK = [] by rw [← HRK.out, rk_6 (by rw [HND.out]) (by rw [HND.out]), if_neg hlt])
        obtain rfl : i = j := by omega
        go_wp2_with fail
        go_ret
        rw [HE.out]
        exact ⟨_, rfl, OwE.nil _ _, HB2.out⟩
    all_goals
      have HE := Lib.hid (show RK = [(pa, i, j)] by rw [← HRK.out]; exact rk_7 (by rw [HND.out]; first | exact .inl rfl | exact .inr rfl) (by rw [HND.out]))
      go_wp2_with fail
      refine (HKID.out pa i j _ (Below.refl _ _)).mono ?_
      rintro e w4 ⟨rfl, hb4⟩
      have HB4 := Lib.hid (HB2.out.trans (hb4.mono (by omega)))
      have HO4 := Lib.hid (one_ent W.heap.size w4 (by have := hb4.size; omega) (d + 1) (pa : Nat) (i : Nat) (j : Nat))
      have HB5 := Lib.hid (HB4.out.alloc HB4.out.size (.cells (enI (d + 1) (pa : Nat) (i : Nat) (j : Nat)) 83))
      clear hb4
      go_wp2_with fail
      go_ret
      rw [HE.out]
      exact ⟨_, rfl, HO4.out, HB5.out⟩
  · have h34 : k = 3 ∨ k = 4 := by
      unfold pcT at hpc
      split at hpc
      · assumption
      · split at hpc <;> omega
    rcases h34 with rfl | rfl
    · -- Cat
      obtain ⟨m0, hm1, hm2⟩ := (can_3 (by rw [HND.out]) (by rw [HND.out]) (by rw [HND.out]) hij hjn).1 HC.out
      have hl1 := can_le hm1
      have hl2 := can_le hm2
      have hcc : (canB l w pa i m0 && canB l w pb m0 j) = true := by rw [(HCI.out pa i m0 (by omega) hl1.1 hl1.2).2 hm1, (HCI.out pb m0 j (by omega) hl2.1 hjn).2 hm2]; rfl
      have HSP := Lib.hid (split_calls l hl w hw B lcp wcp (some ⟨g, off, none⟩) wa pa pb i j (by omega) (by omega) hjn ⟨m0, hl1.1, hl2.1, hcc⟩ w2 HR2.out)
      have HE := Lib.hid (show RK = [(pa, i, downB (fun m => canB l w pa i m && canB l w pb m j) j), (pb, downB (fun m => canB l w pa i m && canB l w pb m j) j, j)] by rw [← HRK.out]; exact rk_3 (by rw [HND.out]) (by rw [HND.out]) (by rw [HND.out]))
      generalize downB (fun m => canB l w pa i m && canB l w pb m j) j = D at *
      clear hcc hl1 hl2 hm1 hm2
      go_wp2_with fail
      refine HSP.out.mono ?_
      rintro e w3 ⟨rfl, hb3⟩
      have h0 : Below w2.heap.size w2 w3.drew := hb3.drew
      clear hb3
      go_upto_region 6 with fail
      refine region_stepsRT (S := fun W' => Below w2.heap.size w2 W') (U := ULc (fun q' => match q' with | 0 => .func (.func 94) #[] #[.pointer (some ⟨W.heap.size + 1, 0, none⟩)] | 1 => .pointer (some ⟨W.heap.size + 1 + 1, 1, none⟩) | 2 => .int .i64 (pa : Nat) | 3 => .pointer (some ⟨W.heap.size + 1, 2, none⟩) | 4 => .int .i64 (i : Nat) | 5 => .int .i64 (D : Nat) | 6 => .agg (enI (d + 1) (pa : Nat) (i : Nat) (D : Nat)) | 7 => .func (.func 94) #[] #[.pointer (some ⟨W.heap.size + 1, 0, none⟩)] | 8 => .pointer (some ⟨W.heap.size + 1 + 1, 2, none⟩) | 9 => .int .i64 (pb : Nat) | 10 => .int .i64 (D : Nat) | 11 => .pointer (some ⟨W.heap.size + 1, 3, none⟩) | 12 => .int .i64 (j : Nat) | 13 => .agg (enI (d + 1) (pb : Nat) (D : Nat) (j : Nat)) | _ => undef)) (V := fun _ _ _ => True) (m := 14) (n := 14) (r := 2) rfl (by kernel_rfl) (fun _ _ hb hs => hs.trans (hb.mono hs.size)) (fun _ _ _ _ _ _ => trivial) (by kernel_rfl) (h0) ?_
      simp only [List.size_toArray, List.length_cons, List.length_nil, Nat.reduceAdd, Array.replicate_succ, Array.replicate_zero, List.push_toArray, List.nil_append, List.cons_append]
      refine AnyRT.step (m := 14) (i := 0) (d := some 32) [6, 0] rfl rfl (by kernel_rfl) (by kernel_rfl) (by kernel_rfl) (by kernel_rfl) (by kernel_rfl) ?_ ?_ ?_
      · exact ⟨_, rfl⟩
      · refine StepsR.yield (.func (.func 94) #[] #[.pointer (some ⟨W.heap.size + 1, 0, none⟩)]) rfl (by kernel_rfl) (fun w' hS hD => ⟨?_, trivial⟩)
        clear hS hD; go_simp
        try rfl
      intro v' hv' a' ha'
      have hv' : .func (.func 94) #[] #[.pointer (some ⟨W.heap.size + 1, 0, none⟩)] = v' := Eq.symm hv'
      subst hv'
      simp only [Act.put, List.setIfInBounds_toArray, List.set_cons_zero, List.set_cons_succ] at ha'
      subst ha'
      refine AnyRT.step (m := 14) (i := 1) (d := some 33) [6, 2, 1] rfl rfl (by kernel_rfl) (by kernel_rfl) (by kernel_rfl) (by kernel_rfl) (by kernel_rfl) ?_ ?_ ?_
      · exact ⟨_, rfl⟩
      · refine StepsR.yield (.pointer (some ⟨W.heap.size + 1 + 1, 1, none⟩)) rfl (by kernel_rfl) (fun w' hS hD => ⟨?_, trivial⟩)
        clear hS hD; go_simp
        try rfl
      intro v' hv' a' ha'
      have hv' : .pointer (some ⟨W.heap.size + 1 + 1, 1, none⟩) = v' := Eq.symm hv'
      subst hv'
      simp only [Act.put, List.setIfInBounds_toArray, List.set_cons_zero, List.set_cons_succ] at ha'
      subst ha'
      refine AnyRT.step (m := 14) (i := 2) (d := some 34) [6, 2] rfl rfl (by kernel_rfl) (by kernel_rfl) (by kernel_rfl) (by kernel_rfl) (by kernel_rfl) ?_ ?_ ?_
      · exact ⟨_, rfl⟩
      · refine StepsR.yield (.int .i64 (pa : Nat)) rfl (by kernel_rfl) (fun w' hS hD => ⟨?_, trivial⟩)
        obtain ⟨⟨u0, u1, u2⟩, ⟨e0, e1, e2, e3⟩, t0, t1, t2⟩ := HFA.out w' hS; clear hS hD; go_simp
        try rfl
      intro v' hv' a' ha'
      have hv' : .int .i64 (pa : Nat) = v' := Eq.symm hv'
      subst hv'
      simp only [Act.put, List.setIfInBounds_toArray, List.set_cons_zero, List.set_cons_succ] at ha'
      subst ha'
      refine AnyRT.step (m := 14) (i := 3) (d := some 35) [6, 4, 3] rfl rfl (by kernel_rfl) (by kernel_rfl) (by kernel_rfl) (by kernel_rfl) (by kernel_rfl) ?_ ?_ ?_
      · exact ⟨_, rfl⟩
      · refine StepsR.yield (.pointer (some ⟨W.heap.size + 1, 2, none⟩)) rfl (by kernel_rfl) (fun w' hS hD => ⟨?_, trivial⟩)
        clear hS hD; go_simp
        try rfl
      intro v' hv' a' ha'
      have hv' : .pointer (some ⟨W.heap.size + 1, 2, none⟩) = v' := Eq.symm hv'
      subst hv'
      simp only [Act.put, List.setIfInBounds_toArray, List.set_cons_zero, List.set_cons_succ] at ha'
      subst ha'
      refine AnyRT.step (m := 14) (i := 4) (d := some 36) [6, 4] rfl rfl (by kernel_rfl) (by kernel_rfl) (by kernel_rfl) (by kernel_rfl) (by kernel_rfl) ?_ ?_ ?_
      · exact ⟨_, rfl⟩
      · refine StepsR.yield (.int .i64 (i : Nat)) rfl (by kernel_rfl) (fun w' hS hD => ⟨?_, trivial⟩)
        obtain ⟨⟨u0, u1, u2⟩, ⟨e0, e1, e2, e3⟩, t0, t1, t2⟩ := HFA.out w' hS; clear hS hD; go_simp
        try rfl
      intro v' hv' a' ha'
      have hv' : .int .i64 (i : Nat) = v' := Eq.symm hv'
      subst hv'
      simp only [Act.put, List.setIfInBounds_toArray, List.set_cons_zero, List.set_cons_succ] at ha'
      subst ha'
      refine AnyRT.step (m := 14) (i := 5) (d := some 37) [6, 5] rfl rfl (by kernel_rfl) (by kernel_rfl) (by kernel_rfl) (by kernel_rfl) (by kernel_rfl) ?_ ?_ ?_
      · exact ⟨_, rfl⟩
      · refine StepsR.yield (.int .i64 (D : Nat)) rfl (by kernel_rfl) (fun w' hS hD => ⟨?_, trivial⟩)
        clear hS hD; go_simp
        try rfl
      intro v' hv' a' ha'
      have hv' : .int .i64 (D : Nat) = v' := Eq.symm hv'
      subst hv'
      simp only [Act.put, List.setIfInBounds_toArray, List.set_cons_zero, List.set_cons_succ] at ha'
      subst ha'
      refine AnyRT.step (m := 14) (i := 6) (d := some 38) [6] rfl rfl (by kernel_rfl) (by kernel_rfl) (by kernel_rfl) (by kernel_rfl) (by kernel_rfl) ?_ ?_ ?_
      · exact ⟨_, rfl⟩
      · refine StepsR.call (by kernel_rfl) (fun w' hS => by clear hS; go_simp) (fun w' hS hD => (HKID.out pa i D w' hS).mono ?_)
        rintro e w'' ⟨rfl, hb⟩
        exact ⟨_, rfl, rfl, trivial, hb⟩
      intro v' hv' a' ha'
      have hv' : .agg (enI (d + 1) (pa : Nat) (i : Nat) (D : Nat)) = v' := Eq.symm hv'
      subst hv'
      simp only [Act.put, List.setIfInBounds_toArray, List.set_cons_zero, List.set_cons_succ] at ha'
      subst ha'
      refine AnyRT.step (m := 14) (i := 7) (d := some 39) [13, 7] rfl rfl (by kernel_rfl) (by kernel_rfl) (by kernel_rfl) (by kernel_rfl) (by kernel_rfl) ?_ ?_ ?_
      · exact ⟨_, rfl⟩
      · refine StepsR.yield (.func (.func 94) #[] #[.pointer (some ⟨W.heap.size + 1, 0, none⟩)]) rfl (by kernel_rfl) (fun w' hS hD => ⟨?_, trivial⟩)
        clear hS hD; go_simp
        try rfl
      intro v' hv' a' ha'
      have hv' : .func (.func 94) #[] #[.pointer (some ⟨W.heap.size + 1, 0, none⟩)] = v' := Eq.symm hv'
      subst hv'
      simp only [Act.put, List.setIfInBounds_toArray, List.set_cons_zero, List.set_cons_succ] at ha'
      subst ha'
      refine AnyRT.step (m := 14) (i := 8) (d := some 40) [13, 9, 8] rfl rfl (by kernel_rfl) (by kernel_rfl) (by kernel_rfl) (by kernel_rfl) (by kernel_rfl) ?_ ?_ ?_
      · exact ⟨_, rfl⟩
      · refine StepsR.yield (.pointer (some ⟨W.heap.size + 1 + 1, 2, none⟩)) rfl (by kernel_rfl) (fun w' hS hD => ⟨?_, trivial⟩)
        clear hS hD; go_simp
        try rfl
      intro v' hv' a' ha'
      have hv' : .pointer (some ⟨W.heap.size + 1 + 1, 2, none⟩) = v' := Eq.symm hv'
      subst hv'
      simp only [Act.put, List.setIfInBounds_toArray, List.set_cons_zero, List.set_cons_succ] at ha'
      subst ha'
      refine AnyRT.step (m := 14) (i := 9) (d := some 41) [13, 9] rfl rfl (by kernel_rfl) (by kernel_rfl) (by kernel_rfl) (by kernel_rfl) (by kernel_rfl) ?_ ?_ ?_
      · exact ⟨_, rfl⟩
      · refine StepsR.yield (.int .i64 (pb : Nat)) rfl (by kernel_rfl) (fun w' hS hD => ⟨?_, trivial⟩)
        obtain ⟨⟨u0, u1, u2⟩, ⟨e0, e1, e2, e3⟩, t0, t1, t2⟩ := HFA.out w' hS; clear hS hD; go_simp
        try rfl
      intro v' hv' a' ha'
      have hv' : .int .i64 (pb : Nat) = v' := Eq.symm hv'
      subst hv'
      simp only [Act.put, List.setIfInBounds_toArray, List.set_cons_zero, List.set_cons_succ] at ha'
      subst ha'
      refine AnyRT.step (m := 14) (i := 10) (d := some 42) [13, 10] rfl rfl (by kernel_rfl) (by kernel_rfl) (by kernel_rfl) (by kernel_rfl) (by kernel_rfl) ?_ ?_ ?_
      · exact ⟨_, rfl⟩
      · refine StepsR.yield (.int .i64 (D : Nat)) rfl (by kernel_rfl) (fun w' hS hD => ⟨?_, trivial⟩)
        clear hS hD; go_simp
        try rfl
      intro v' hv' a' ha'
      have hv' : .int .i64 (D : Nat) = v' := Eq.symm hv'
      subst hv'
      simp only [Act.put, List.setIfInBounds_toArray, List.set_cons_zero, List.set_cons_succ] at ha'
      subst ha'
      refine AnyRT.step (m := 14) (i := 11) (d := some 43) [13, 12, 11] rfl rfl (by kernel_rfl) (by kernel_rfl) (by kernel_rfl) (by kernel_rfl) (by kernel_rfl) ?_ ?_ ?_
      · exact ⟨_, rfl⟩
      · refine StepsR.yield (.pointer (some ⟨W.heap.size + 1, 3, none⟩)) rfl (by kernel_rfl) (fun w' hS hD => ⟨?_, trivial⟩)
        clear hS hD; go_simp
        try rfl
      intro v' hv' a' ha'
      have hv' : .pointer (some ⟨W.heap.size + 1, 3, none⟩) = v' := Eq.symm hv'
      subst hv'
      simp only [Act.put, List.setIfInBounds_toArray, List.set_cons_zero, List.set_cons_succ] at ha'
      subst ha'
      refine AnyRT.step (m := 14) (i := 12) (d := some 44) [13, 12] rfl rfl (by kernel_rfl) (by kernel_rfl) (by kernel_rfl) (by kernel_rfl) (by kernel_rfl) ?_ ?_ ?_
      · exact ⟨_, rfl⟩
      · refine StepsR.yield (.int .i64 (j : Nat)) rfl (by kernel_rfl) (fun w' hS hD => ⟨?_, trivial⟩)
        obtain ⟨⟨u0, u1, u2⟩, ⟨e0, e1, e2, e3⟩, t0, t1, t2⟩ := HFA.out w' hS; clear hS hD; go_simp
        try rfl
      intro v' hv' a' ha'
      have hv' : .int .i64 (j : Nat) = v' := Eq.symm hv'
      subst hv'
      simp only [Act.put, List.setIfInBounds_toArray, List.set_cons_zero, List.set_cons_succ] at ha'
      subst ha'
      refine AnyRT.step (m := 14) (i := 13) (d := some 45) [13] rfl rfl (by kernel_rfl) (by kernel_rfl) (by kernel_rfl) (by kernel_rfl) (by kernel_rfl) ?_ ?_ ?_
      · exact ⟨_, rfl⟩
      · refine StepsR.call (by kernel_rfl) (fun w' hS => by clear hS; go_simp) (fun w' hS hD => (HKID.out pb D j w' hS).mono ?_)
        rintro e w'' ⟨rfl, hb⟩
        exact ⟨_, rfl, rfl, trivial, hb⟩
      intro v' hv' a' ha'
      have hv' : .agg (enI (d + 1) (pb : Nat) (D : Nat) (j : Nat)) = v' := Eq.symm hv'
      subst hv'
      simp only [Act.put, List.setIfInBounds_toArray, List.set_cons_zero, List.set_cons_succ] at ha'
      subst ha'
      refine AnyRT.last (by kernel_rfl) (fun w9 hS hF => ?_)
      clear hF
      have HB9 := Lib.hid (HB2.out.trans (hS.mono (by omega)))
      have hz9 : W.heap.size + 3 ≤ w9.heap.size := by have := hS.size; omega
      have HO9 := Lib.hid (two_ent W.heap.size w9 (by omega) (d + 1) (pa : Nat) (i : Nat) (D : Nat) (d + 1) (pb : Nat) (D : Nat) (j : Nat))
      have HB10 := Lib.hid (HB9.out.alloc HB9.out.size (.cells #[.int .i64 (d + 1), .int .i64 (pa : Nat), .int .i64 (i : Nat), .int .i64 (D : Nat), .int .i64 (d + 1), .int .i64 (pb : Nat), .int .i64 (D : Nat), .int .i64 (j : Nat)] 83))
      clear hS
      refine wpAny_one (i := 14) (o := ⟨some 46, _, _, _, _, _⟩) (by kernel_rfl) rfl (by kernel_rfl) ?_
      refine wp_made (v := .slice (some ⟨w9.heap.size, 0, none⟩) 2 2) (w' := w9.alloc (.cells #[.int .i64 (d + 1), .int .i64 (pa : Nat), .int .i64 (i : Nat), .int .i64 (D : Nat), .int .i64 (d + 1), .int .i64 (pb : Nat), .int .i64 (D : Nat), .int .i64 (j : Nat)] 83)) (by go_simp) ?_
      refine wpAny_one (i := 15) (o := ⟨some 4, .assign (.tmp 46), _, _, _, _⟩) (by kernel_rfl) rfl (by kernel_rfl) ?_
      generalize w9.alloc (.cells #[.int .i64 (d + 1), .int .i64 (pa : Nat), .int .i64 (i : Nat), .int .i64 (D : Nat), .int .i64 (d + 1), .int .i64 (pb : Nat), .int .i64 (D : Nat), .int .i64 (j : Nat)] 83) = wq at *
      show wpAny Tryd.prog _ _ _ 0 _ (Act.put _ (some 4) (.slice (some ⟨w9.heap.size, 0, none⟩) 2 2)) wq
      refine wpAny_none (P := Tryd.prog) (by kernel_rfl) ?_
      simp only [Act.put, List.setIfInBounds_toArray, List.set_cons_zero, List.set_cons_succ]
      go_wp2_with fail
      go_ret
      rw [HE.out]
      exact ⟨_, rfl, HO9.out, HB10.out⟩
    · -- Alt
      have HCAN := Lib.hid (canC_calls l.length w.length B lcp wcp pa i j (some ⟨g, off, none⟩) wa (stQ l w l.length) (by omega) (by omega) (by omega) w2 HR2.out)
      rw [can_all l w hw pa i j (by omega) hij hjn] at HCAN
      have HE := Lib.hid (show RK = if canB l w pa i j = true then [(pa, i, j)] else [(pb, i, j)] by rw [← HRK.out]; exact rk_4 (by rw [HND.out]) (by rw [HND.out]) (by rw [HND.out]))
      obtain ⟨z, hzz⟩ : ∃ z, canB l w pa i j = z := ⟨_, rfl⟩
      rw [hzz] at HCAN HE
      clear hzz
      go_wp2_with fail
      refine HCAN.out.mono ?_
      rintro e w3 ⟨rfl, hb3⟩
      have HB3 := Lib.hid (HB2.out.trans (hb3.mono (by omega)))
      have HK3 := Lib.hid (fun (x f t : Nat) => HKID.out x f t w3 hb3)
      have hz3 : W.heap.size + 3 ≤ w3.heap.size := by have := hb3.size; omega
      obtain ⟨⟨u0, u1, u2⟩, ⟨e0, e1, e2, e3⟩, t0, t1, t2⟩ := HFA.out w3 hb3
      clear hb3
      cases z
      · rw [if_neg (by simp)] at HE
        go_wp2_with fail
        refine (HK3.out pb i j).mono ?_
        rintro e w4 ⟨rfl, hb4⟩
        have HB4 := Lib.hid (HB3.out.trans (hb4.mono (by omega)))
        have HO4 := Lib.hid (one_ent W.heap.size w4 (by have := hb4.size; omega) (d + 1) (pb : Nat) (i : Nat) (j : Nat))
        have HB5 := Lib.hid (HB4.out.alloc HB4.out.size (.cells (enI (d + 1) (pb : Nat) (i : Nat) (j : Nat)) 83))
        clear hb4
        go_wp2_with fail
        go_ret
        rw [HE.out]
        exact ⟨_, rfl, HO4.out, HB5.out⟩
      · rw [if_pos rfl] at HE
        go_wp2_with fail
        refine (HK3.out pa i j).mono ?_
        rintro e w4 ⟨rfl, hb4⟩
        have HB4 := Lib.hid (HB3.out.trans (hb4.mono (by omega)))
        have HO4 := Lib.hid (one_ent W.heap.size w4 (by have := hb4.size; omega) (d + 1) (pa : Nat) (i : Nat) (j : Nat))
        have HB5 := Lib.hid (HB4.out.alloc HB4.out.size (.cells (enI (d + 1) (pa : Nat) (i : Nat) (j : Nat)) 83))
        clear hb4
        go_wp2_with fail
        go_ret
        rw [HE.out]
        exact ⟨_, rfl, HO4.out, HB5.out⟩
end Go.Proofs.YtdpkhliojbeglaaDoor

/- Texts put together: To Qb. -/
import Derived.Test.YtpncomjpmilbkaaDoorPT
import Derived.Test.YtpncomjpmilbkaaDoorPQ
import Derived.StillTailTactics
import Derived.Test.YtpncomjpmilbkaaDoorPC
/- The document's terms of trees: node. Stage 11. -/
namespace Go.Proofs.YtpncomjpmilbkaaDoor
open Go.RowKit BS

theorem TmsIn.cell0 {base base' : Nat} {Ls : List (List NdN)} {vals : List Value} {W : World} {g n cap : Nat} (h : TmsIn base Ls vals W) (ho : OwP base' (.slice (some ⟨g, 0, none⟩) n cap) vals W) (x : Nat) (hx : x < Ls.length) : ∃ gx cx, W.cell? ⟨g, x, none⟩ = some (.slice (some ⟨gx, 0, none⟩) Ls[x].length cx) ∧ OwT base (.slice (some ⟨gx, 0, none⟩) Ls[x].length cx) Ls[x] W := by
  have hlen : x < vals.length := by rw [h.1]; exact hx
  obtain ⟨gx, cx, e1, e2⟩ := h.2 x hx
  rcases ho.2 with ⟨e, _⟩ | ⟨g', cap', cur, e, _⟩
  · cases e
  · cases e
    exact ⟨gx, cx, (World.ownsRow.cellAt ho x (by omega)).trans e1, e2⟩
theorem join_own (k : Int) (Ls : List (List NdN)) (hne : Ls ≠ []) (hall : ∀ M ∈ Ls, M ≠ [] ∧ Bdd M) (hj : (jnL k Ls).length ≤ 1000) (hl : Ls.length ≤ 1000) {base : Nat} {vals : List Value} {v : Value} {W : World} (hT : TmsIn base Ls vals W) (hP : OwP base v vals W) (hb : base ≤ W.heap.size) :
    Calls Tryd.prog 53 #[v, .int .i64 k] W fun e W' => ∃ gv cv, e = .returned (.slice (some ⟨gv, 0, none⟩) (jnL k Ls).length cv) ∧ OwT base (.slice (some ⟨gv, 0, none⟩) (jnL k Ls).length cv) (jnL k Ls) W' ∧ Below W.heap.size W W' := by
  obtain ⟨g, cap, rfl, hcap, hpa⟩ := hT.parts (fun L hL => (hall L hL).1) hne hP
  refine (join_calls k Ls hne hall hj hl g 0 cap hcap W hpa).mono ?_
  rintro e W' ⟨v, rfl, ⟨h1, hc, rfl⟩ | ⟨gv, cv, rfl, ho, hb'⟩⟩
  · obtain ⟨A, rfl⟩ := List.length_eq_one_iff.1 h1
    obtain ⟨gx, cx, hc2, ho2⟩ := hT.cell0 hP 0 (by simp)
    rw [hc] at hc2
    cases hc2
    exact ⟨gx, cx, rfl, ho2, Below.refl _ _⟩
  · exact ⟨gv, cv, rfl, ho.mono hb, hb'⟩
/-- The terms that a Rep's copies are joined of. -/
def allL (E : List NdN) (many : Nat) (more : Int) : List (List NdN) := List.replicate many E ++ (if more = -1 then [unT E 5 0] else if 0 < more then [lkL E more.toNat] else [])
theorem all_enc (one : TT) (many : Nat) (more : Int) : (allT one many more).map enc = allL (enc one) many more := by
  unfold allT allL
  rw [List.map_append, List.map_replicate, Int.toNat_natCast]
  by_cases h : more = -1
  · rw [if_pos h, if_pos h]; rfl
  · rw [if_neg h, if_neg h]
    by_cases h2 : 0 < more
    · rw [if_pos h2, if_pos h2, List.map_singleton, lk_enc _ _ (by omega)]
    · rw [if_neg h2, if_neg h2]; rfl
theorem all_mem (one : TT) (many : Nat) (more : Int) : ∀ M ∈ allL (enc one) many more, M ≠ [] ∧ Bdd M := fun M hM => by
  rw [← all_enc] at hM
  obtain ⟨t, _, rfl⟩ := List.mem_map.1 hM
  exact ⟨enc_ne _, bdd_enc _⟩
theorem all_ne (E : List NdN) (many : Nat) (more : Int) (h : more = -1 ∨ ∃ k : Nat, more = k ∧ 0 < many + k) : allL E many more ≠ [] := by
  unfold allL
  intro h0
  have h1 := congrArg List.length h0
  rw [List.length_append, List.length_replicate] at h1
  rcases h with rfl | ⟨k, rfl, hk⟩
  · rw [if_pos rfl] at h1; simp at h1
  · rw [if_neg (by omega)] at h1
    by_cases h2 : (0 : Int) < k
    · rw [if_pos h2] at h1; simp at h1
    · rw [if_neg h2] at h1; simp at h1; omega
theorem all_le (E : List NdN) (many : Nat) (more : Int) : (allL E many more).length ≤ many + 1 := by
  unfold allL
  rw [List.length_append, List.length_replicate]
  split
  · simp
  · split <;> simp
theorem all_jn (one : TT) (many : Nat) (more : Int) (h : more = -1 ∨ ∃ k : Nat, more = k ∧ 0 < many + k) : enc (jnT .cat (allT one many more)) = jnL 3 (allL (enc one) many more) := by
  rw [jn_enc .cat 3 (fun _ _ => rfl) _ (fun h0 => all_ne (enc one) many more h (by rw [← all_enc, h0]; rfl)), all_enc]
theorem all_lk (one : TT) (many k : Nat) (hk : 0 < k) : (lkL (enc one) k).length ≤ (enc (jnT .cat (allT one many (k : Int)))).length := by
  rw [← lk_enc one k hk, enc_len, enc_len, lk_sz one k hk, rep_sz one many k (.inr ⟨k, rfl, by omega⟩), if_neg (by omega), Int.toNat_natCast, Nat.add_mul]
  omega
theorem shift_nil (E : List NdN) (hE : E ≠ []) (hl : E.length ≤ 1000) (hb : Bdd E) (g1 c1 : Nat) (base : Nat) (W : World) (ho : OwT base (.slice (some ⟨g1, 0, none⟩) E.length c1) E W) :
    Calls Tryd.prog 54 #[.slice none 0 0, .slice (some ⟨g1, 0, none⟩) E.length c1] W fun e W' => ∃ g cap, e = .returned (.slice (some ⟨g, 0, none⟩) E.length cap) ∧ OwT W.heap.size (.slice (some ⟨g, 0, none⟩) E.length cap) E W' ∧ Below W.heap.size W W' := by
  obtain ⟨gq, cq, eq, _, _, hn⟩ := ho.nodes hE
  cases eq
  refine (shift_calls [] E (by simp) (List.length_pos_iff.2 hE) hl (fun x hx => by have := hb x hx; omega) W.heap.size (.slice none 0 0) g1 0 c1 W (Nat.le_refl _) (World.ownsRow_nil _ _ _ _) hn (by simp [Value.ownBlock])).mono ?_
  rintro e W' ⟨g, cap, rfl, ho, hk, _⟩
  rw [behL_nil] at ho
  rw [List.length_nil, Nat.zero_add] at ho ⊢
  exact ⟨g, cap, rfl, ho, hk.toBelow (Nat.le_refl _) (fun x hx => by simp [Value.ownBlock] at hx)⟩
def NodeG (l : List NdN) (a : Option Addr) (cap gn on cn gm om cm i : Nat) : Prop := ∀ (w : World), NdArg l a gn on gm om w →
    Calls Tryd.prog 28 #[.slice a l.length cap, .slice (some ⟨gn, on, none⟩) l.length cn, .slice (some ⟨gm, om, none⟩) l.length cm, .int .i64 (i : Nat)] w fun e w' => ∃ gv cv, e = .returned (.slice (some ⟨gv, 0, none⟩) (enc (tmV l i)).length cv) ∧ OwT w.heap.size (.slice (some ⟨gv, 0, none⟩) (enc (tmV l i)).length cv) (enc (tmV l i)) w' ∧ Below w.heap.size w w'
set_option maxRecDepth 100000 in
set_option maxHeartbeats 64000000 in
theorem node_step (l : List NdN) (hr : rightR l = true) (hl : l.length ≤ 1000) (i : Nat) (hi : i < l.length) (hsz : szV l i ≤ 400) (a : Option Addr) (cap gn on cn gm om cm : Nat)
    (IH : ∀ x, x < i → x < l.length → szV l x ≤ 400 → NodeG l a cap gn on cn gm om cm x) : NodeG l a cap gn on cn gm om cm i := by
  intro w h
  have hf := right_formed l hr
  have HA := Lib.hid h
  have hKC := rKids_calls l (by omega) i a cap w h.nodes
  have hkl := kid_lt l hf i hi
  have hKB := kids_le l i
  have hnd := node_right l hr i hi
  have hsmall := kid_small l hr i hi
  have HIH := Lib.hid IH
  have hii : (i : Int) < (l.length : Int) := by omega
  have hd : decide (i < l.length) = true := by rw [decide_eq_true_iff]; omega
  have hne : l ≠ [] := by rintro rfl; simp at hi
  have HTE := Lib.hid (tm_eps l hr i hi)
  have HTL := Lib.hid (tm_leaf l hr i hi)
  have HTG := Lib.hid (tm_grp l hr i hi)
  have HTR := Lib.hid (tm_rep l hr i hi)
  have HTC := Lib.hid (tm_cat l hr i hi)
  have HTA := Lib.hid (tm_alt l hr i hi)
  have HSZ := Lib.hid (show (enc (tmV l i)).length ≤ 400 from by rw [enc_len]; exact hsz)
  clear IH h hsz
  go_enter Tryd.func28, Tryd.ntmps28
  go_wp2_with fail
  refine hKC.mono ?_
  rintro e w1 ⟨bk, ck, rfl, hik, hb⟩
  have HA1 := Lib.hid (HA.out.below hb)
  have HB1 := Lib.hid hb
  clear hKC hb HA
  have hKx : kidsR l (i : Int) = kidsR l (i : Int) := rfl
  obtain ⟨K, hK⟩ : ∃ K, kidsR l (i : Int) = K := ⟨_, rfl⟩
  rw [hK] at hik hkl hKB hnd hsmall ⊢
  clear hKx
  have HKD := Lib.hid hK
  clear hK
  have hcells : ∀ W, Below w1.heap.size w1 W → ∃ g off, a = some ⟨g, off, none⟩ ∧ g < w1.heap.size ∧ ∀ j, j < 8 → W.cell? ⟨g, off + i * 8 + j, none⟩ = (ndA l[i])[j]? := fun W hW => by
    obtain ⟨g, off, e, hg, hc⟩ := HA1.out.nodes hne
    exact ⟨g, off, e, hg, fun j hj => (hW.cell (p := ⟨g, off + i * 8 + j, none⟩) hg).trans (hc i hi j hj)⟩
  have HCELL := Lib.hid hcells
  obtain ⟨g, off, rfl, hg, hc⟩ := hcells w1 (Below.refl _ _)
  have d0 := hc 0 (by decide); have d3 := hc 3 (by decide)
  simp only [ndA, List.getElem?_toArray, List.getElem?_cons_zero, List.getElem?_cons_succ, Nat.add_zero] at d0 d3
  clear hcells hc
  obtain ⟨k, kc, kn, km, t, hx⟩ : ∃ k kc kn km t, l[i] = (⟨k, kc, kn, km, t⟩ : NdN) := ⟨_, _, _, _, _, rfl⟩
  have HX := Lib.hid hx
  rw [hx] at hnd hsmall HTE HTL HTG HTR HTC HTA d0 d3
  simp only at hnd hsmall HTE HTL HTG HTR HTC HTA d0 d3
  clear hx
  by_cases hrep0 : k = 4 ∧ km = 0
  · obtain ⟨rfl, rfl⟩ := hrep0
    have e1 := HTE.out (.inr ⟨rfl, rfl⟩)
    have HRES := Lib.hid (show ∀ W, w1.heap.size ≤ W.heap.size → OwT w.heap.size (.slice (some ⟨W.heap.size, 0, none⟩) 1 1) [(⟨1, -1, -1, 0, 0⟩ : NdN)] (W.alloc (.cells #[.int .i64 1, .int .i64 (-1), .int .i64 (-1), .int .i64 0, .int .u64 0, .int .u64 0, .int .u64 0, .int .u64 0] 44)) from fun W hW => own_one W w.heap.size (Nat.le_trans HB1.out.size hW) ⟨1, -1, -1, 0, 0⟩ _ cells_eps)
    have HB2 := Lib.hid (HB1.out.alloc HB1.out.size (.cells #[.int .i64 1, .int .i64 (-1), .int .i64 (-1), .int .i64 0, .int .u64 0, .int .u64 0, .int .u64 0, .int .u64 0] 44))
    have HE1 := Lib.hid e1
    clear e1 HTE HTL HTG HTR HTC HTA
    go_wp2_with fail
    go_ret
    rw [HE1.out]
    exact ⟨w1.heap.size, 1, rfl, HRES.out w1 (Nat.le_refl _), HB2.out⟩
  · have qc : (k != 4) = true ∨ ((k != 4) = false ∧ (km != 0) = true) := by
      by_cases hk4 : k = 4
      · refine .inr ⟨by rw [hk4]; rfl, ?_⟩
        rw [bne, show (km == 0) = false from beq_eq_false_iff_ne.2 (fun h0 => hrep0 ⟨hk4, h0⟩)]; rfl
      · exact .inl (by rw [bne, show (k == 4) = false from beq_eq_false_iff_ne.2 hk4]; rfl)
    have HSM := Lib.hid (hsmall hrep0)
    clear hsmall
    obtain ⟨i0, hinf, hza, hzb, hzc⟩ := info_parts infoSl
    go_upto_region 3 with fail
    go_cut [33] from 20 to 32 (fun v wx => v = .bool true ∧ w1 = wx)
    case first =>
      rcases qc with qc | ⟨qc, qm⟩
      all_goals
        go_wp2_with fail
        go_meet
        exact ⟨rfl, rfl⟩
    case rest =>
    obtain ⟨rfl, rfl⟩ := hcut
    clear qc d0 d3
    go_upto_region 5 with fail
    go_loopw [10, 11] (fun vp vj wr => ∃ j : Nat, j ≤ K.length ∧ vj = .int .i64 j ∧ (∃ vals, OwP w1.heap.size vp vals wr ∧ TmsIn w1.heap.size (kdT l (K.take j)) vals wr) ∧ Below w1.heap.size w1 wr) (fun _ vj _ => K.length - (intOf vj).toNat)
    case atStart => exact ⟨0, Nat.zero_le _, rfl, ⟨[], World.ownsRow_nil _ _ _ _, TmsIn.nil _ _⟩, Below.refl _ _⟩
    case round =>
      obtain ⟨j, hj, rfl, ⟨vals, hp, htm⟩, hB⟩ := hrel
      have HP := Lib.hid hp
      have HTM0 := Lib.hid htm
      have HBW0 := Lib.hid hB
      have hvl : vals.length = j := by have := htm.1; rw [kdT_len, List.length_take] at this; omega
      clear hp htm
      by_cases hjl : j < K.length
      · have hjd : decide ((j : Int) < (K.length : Int)) = true := by rw [decide_eq_true_iff]; omega
        have hjd2 : decide (j < K.length) = true := decide_eq_true hjl
        have hjI : (j : Int) < (K.length : Int) := by omega
        have xj : IntKind.i64.wrap ((j : Int) + 1) = (j : Int) + 1 := IntWalk.i64_in _ (by omega)
        obtain ⟨gk, rfl, hgk, hck⟩ := hik (by rintro rfl; simp at hjl)
        have ckc := (hB.cell (p := ⟨gk, j, none⟩) hgk).trans (hck j hjl)
        obtain ⟨hk1, hk2⟩ := hkl K[j] (List.getElem_mem hjl)
        obtain ⟨p, hp⟩ : ∃ p : Nat, K[j] = p := ⟨K[j].toNat, by omega⟩
        have hps := HSM.out K[j] (List.getElem_mem hjl)
        have hsn := kdT_snoc l (K.take j) K[j]
        rw [← List.take_succ_eq_append_getElem hjl, hp, Int.toNat_natCast] at hsn
        rw [hp, Int.toNat_natCast] at hps
        rw [hp] at ckc
        have hps4 : szV l p ≤ 400 := by have := HSZ.out; rw [enc_len] at this; exact Nat.le_trans hps this
        have HC := Lib.hid (HIH.out p (by omega) (by omega) hps4 wr (HA1.out.below (hB.mono (Nat.le_refl _))))
        have HSN := Lib.hid hsn
        clear hck hk1 hk2 hp hps hsn hB
        go_wp2_with fail
        refine HC.out.mono ?_
        rintro e w3 ⟨g9, c9, rfl, ho9, hb9⟩
        have hwr := HBW0.out.size
        have HBW := Lib.hid (HBW0.out.trans (hb9.mono HBW0.out.size))
        have HP3 := Lib.hid (show OwP w1.heap.size _ vals w3 from owns_keep HP.out fun z hz => hb9.block z (World.ownsRow.lt HP.out z hz).2)
        have HTM := Lib.hid (HTM0.out.below hb9)
        have HNEW := Lib.hid (ho9.mono hwr)
        have hw3 := HBW.out.size
        clear HC ho9 hb9 HP HTM0 HBW0
        have hszA : w1.heap.size ≤ (w3.alloc (.cells #[.slice (some ⟨g9, 0, none⟩) (enc (tmV l p)).length c9] 31)).heap.size := by rw [World.size_alloc]; omega
        have HAFT := Lib.hid (show ∀ v W9, W9.ownsRow w1.heap.size 31 1 v (vals.length + 1) (vals ++ [.slice (some ⟨g9, 0, none⟩) (enc (tmV l p)).length c9]) → (w3.alloc (.cells #[.slice (some ⟨g9, 0, none⟩) (enc (tmV l p)).length c9] 31)).grownBy W9 (u10).ownBlock → OwP w1.heap.size v (vals ++ [.slice (some ⟨g9, 0, none⟩) (enc (tmV l p)).length c9]) W9 ∧ TmsIn w1.heap.size (kdT l (K.take j) ++ [enc (tmV l p)]) (vals ++ [.slice (some ⟨g9, 0, none⟩) (enc (tmV l p)).length c9]) W9 ∧ Below w1.heap.size w1 W9 ∧ (∀ u M, OwT w1.heap.size u M w3 → OwT w1.heap.size u M W9) from fun v W9 h1 h2 => by
          have hal : Below w3.heap.size w3 (w3.alloc (.cells #[.slice (some ⟨g9, 0, none⟩) (enc (tmV l p)).length c9] 31)) := (Below.refl _ _).alloc (Nat.le_refl _) _
          have hk : ∀ u M, OwT w1.heap.size u M w3 → OwT w1.heap.size u M W9 := fun u M hu => by
            have hu2 := hu.below hal
            refine World.ownsRow.kept hu2 h2 ?_
            cases hb : u.ownBlock with
            | none => exact .inl rfl
            | some z => exact .inr (fun e => own_ne hu HP3.out hb e.symm)
          refine ⟨?_, (HTM.out.snoc _ _ _ HNEW.out).keep hk, (HBW.out.alloc HBW.out.size _).grown h2 hszA (fun b hb => (World.ownsRow.lt HP3.out b hb).1), hk⟩
          unfold OwP
          rw [List.length_append]
          exact h1)
        go_wp2_with (at_builtin; refine wpList_append_own _ rfl _ _ 94 rfl w1.heap.size 31 i0 (.slice none 0 0) 1 24 Tryd.underlying94 hinf hza hzb hzc rfl (by decide) _ vals.length vals rfl (HP3.out.alloc _) ⟨w3.heap.size, 0, none⟩ 1 1 [.slice (some ⟨g9, 0, none⟩) (enc (tmV l p)).length c9] rfl rfl (Blk.new w3 _ _).newsL (by simp [Value.oneCell']) (by unfold maxLen; omega) (by omega) hszA ?_; intro v9 w9 hown9 hgrow9 _; obtain ⟨hr1, hr2, hr3, hr4⟩ := HAFT.out v9 w9 hown9 hgrow9; have HR1 := Lib.hid hr1; have HR2 := Lib.hid hr2; have HR3 := Lib.hid hr3; clear hown9 hgrow9 hr1 hr2 hr3 hr4)
        go_roundw
        case rel => exact ⟨j + 1, by omega, by simp, ⟨_, HR1.out, by rw [HSN.out]; exact HR2.out⟩, HR3.out⟩
        case measure => simp [intOf]; omega
      · obtain rfl : j = K.length := by omega
        have hjd : decide ((K.length : Int) < (K.length : Int)) = false := by simp
        rw [List.take_of_length_le (Nat.le_refl _)] at HTM0
        obtain ⟨g', off', e, hg', hc⟩ := HCELL.out wr HBW0.out
        cases e
        rw [HX.out] at hc
        have d0 := hc 0 (by decide); have d1 := hc 1 (by decide); have d2 := hc 2 (by decide); have d3 := hc 3 (by decide); have d4 := hc 4 (by decide); have d5 := hc 5 (by decide); have d6 := hc 6 (by decide); have d7 := hc 7 (by decide)
        simp only [ndA, List.getElem?_toArray, List.getElem?_cons_zero, List.getElem?_cons_succ, Nat.add_zero] at d0 d1 d2 d3 d4 d5 d6 d7
        have hws := HBW0.out.size
        clear hc HCELL hkl HIH hjd hj hjl
        have HBR := Lib.hid (HB1.out.trans (HBW0.out.mono HB1.out.size))
        rcases hnd with ⟨rfl, hK⟩ | ⟨rfl, hK⟩ | ⟨p, rfl, hK, hpi⟩ | ⟨p, rfl, hK, hpi, hrn⟩ | ⟨hk56, hK⟩
        · have HE1 := Lib.hid (HTE.out (.inl rfl))
          have HRES := Lib.hid (own_one wr w.heap.size HBR.out.size ⟨1, -1, -1, 0, 0⟩ _ cells_eps)
          have HB2 := Lib.hid (HBR.out.alloc HBR.out.size (.cells #[.int .i64 1, .int .i64 (-1), .int .i64 (-1), .int .i64 0, .int .u64 0, .int .u64 0, .int .u64 0, .int .u64 0] 44))
          clear HTE HTL HTG HTR HTC HTA
          go_wp2_with fail
          go_ret
          rw [HE1.out]
          exact ⟨wr.heap.size, 1, rfl, HRES.out, HB2.out⟩
        · have HE1 := Lib.hid (HTL.out rfl)
          have HRES := Lib.hid (own_one wr w.heap.size HBR.out.size ⟨2, -1, -1, 0, t⟩ _ (cells_node 2 t))
          have HB2 := Lib.hid (HBR.out.alloc HBR.out.size (.cells #[.int .i64 2, .int .i64 (-1), .int .i64 (-1), .int .i64 0, .int .u64 (wd t 0), .int .u64 (wd t 1), .int .u64 (wd t 2), .int .u64 (wd t 3)] 44))
          clear HTE HTL HTG HTR HTC HTA
          go_wp2_with fail
          go_ret
          rw [HE1.out]
          exact ⟨wr.heap.size, 1, rfl, HRES.out, HB2.out⟩
        · subst hK
          have he1 := HTG.out rfl p HKD.out
          obtain ⟨gp, cp, rfl, hcp, hpa⟩ := HTM0.out.parts (kdT_ne l [(p : Int)]) (by simp [kdT]) HP.out
          obtain ⟨gx, cx, hv0', ho1'⟩ := HTM0.out.cell0 HP.out 0 (by rw [kdT_len]; show 0 < 1; decide)
          have hv0 : wr.drew.cell? ⟨gp, 0, none⟩ = some (.slice (some ⟨gx, 0, none⟩) (enc (tmV l p)).length cx) := hv0'
          have ho1 : OwT w1.heap.size (.slice (some ⟨gx, 0, none⟩) (enc (tmV l p)).length cx) (enc (tmV l p)) wr.drew := ho1'
          have cnum := (HA1.out.below (HBW0.out.mono (Nat.le_refl _))).nums i hi
          have hszp : (enc (tmV l p)).length ≤ 1000 := by have := HSZ.out; rw [he1, enc, unT_len] at this; omega
          obtain ⟨nv, hnv⟩ : ∃ nv, (numsR l).getD i 0 = nv := ⟨_, rfl⟩
          rw [hnv] at cnum he1
          have HE1 := Lib.hid he1
          clear hnv he1
          have HU := Lib.hid (unary_calls (enc (tmV l p)) (List.length_pos_iff.2 (enc_ne _)) hszp 7 nv w1.heap.size _ wr.drew HBW0.out.size ho1)
          have hgx := (World.ownsRow.lt ho1 gx rfl).1
          have hkl : (kdT l [(p : Int)]).length = 1 := rfl
          rw [hkl]
          have hmI : (i : Int) < (l.length : Int) := by omega
          clear HTE HTL HTG HTR HTC HTA hpa hv0' ho1' ho1
          go_upto_region 12 with fail
          go_still_tail 7, (by kernel_rfl)
          change wpList _ _ _ _ _ wr.drew
          go_wp2_with fail
          refine HU.out.mono ?_
          rintro e w4 ⟨gv, cv, rfl, ho4, hk4, hg4⟩
          have HO := Lib.hid (ho4.mono (Nat.le_trans HB1.out.size (Nat.le_refl _)))
          have HB4 := Lib.hid (HBR.out.drew.trans (hk4.toBelow (n := w.heap.size) HBR.out.size (fun x hx => by cases hx; exact Nat.le_trans HB1.out.size hgx)))
          clear ho4 hk4 hg4 HU
          go_wp2_with fail
          go_ret
          rw [HE1.out]
          have e9 : (enc (TT.grp nv (tmV l p))).length = (enc (tmV l p)).length + 1 := by rw [enc, unT_len]
          rw [e9]
          exact ⟨gv, cv, rfl, HO.out, HB4.out⟩
        · subst hK
          have hm0 : km ≠ 0 := fun h0 => hrep0 ⟨rfl, h0⟩
          obtain ⟨gk, rfl, hgk, hck⟩ := hik (by simp)
          have ckk := (HBW0.out.cell (p := ⟨gk, 0, none⟩) hgk).trans (hck 0 (by show 0 < 1; decide))
          obtain ⟨gp, cp, rfl, hcp, hpa⟩ := HTM0.out.parts (kdT_ne l [(p : Int)]) (by simp [kdT]) HP.out
          obtain ⟨gx, cx, hv0', ho1'⟩ := HTM0.out.cell0 HP.out 0 (by rw [kdT_len]; show 0 < 1; decide)
          have hv0 : wr.cell? ⟨gp, 0, none⟩ = some (.slice (some ⟨gx, 0, none⟩) (enc (tmV l p)).length cx) := hv0'
          have ho1 : OwT w1.heap.size (.slice (some ⟨gx, 0, none⟩) (enc (tmV l p)).length cx) (enc (tmV l p)) wr := ho1'
          have hA3 := HA1.out.below (HBW0.out.mono (Nat.le_refl _))
          have hszp : (enc (tmV l p)).length ≤ 400 := by have h1 := HSM.out (p : Int) (by simp); have h2 := HSZ.out; rw [enc_len] at h2 ⊢; exact Nat.le_trans h1 h2
          have HU := Lib.hid (unary_calls (enc (tmV l p)) (List.length_pos_iff.2 (enc_ne _)) (by omega) 8 0 w1.heap.size _ wr HBW0.out.size ho1)
          have hgx := (World.ownsRow.lt ho1 gx rfl).1
          have hkl : (kdT l [(p : Int)]).length = 1 := rfl
          have he1 := HTR.out rfl hm0 p HKD.out
          obtain ⟨many, hc1, hmb, hc2⟩ := cp_bounds (⟨4, kc, kn, km, t⟩ : NdN) (nulV l p) hrn hm0
          obtain ⟨more, hmr⟩ : ∃ more, (cpN (⟨4, kc, kn, km, t⟩ : NdN) (nulV l p)).2 = more := ⟨_, rfl⟩
          have hco : ∀ W, Calls Tryd.prog 23 #[.agg (ndI 4 kc kn km t), .bool (nulV l p)] W fun e W' => e = .returned (.tuple #[.int .i64 (many : Nat), .int .i64 more]) ∧ Below W.heap.size W W' := fun W => by
            have := copies_calls 4 kc kn km t (nulV l p) hrn W
            rw [hc1, hmr] at this
            exact this
          have HCO := Lib.hid hco
          rw [hc1, hmr] at he1
          rw [hmr] at hc2
          have hpos : more = -1 ∨ ∃ k : Nat, more = k ∧ 0 < many + k := hc2.imp id (fun ⟨k, h1, _, h3⟩ => ⟨k, h1, h3⟩)
          have hlk : ∀ k : Nat, more = k → 0 < k → (lkL (enc (TT.iter (tmV l p))) k).length ≤ 400 := fun k hk h0 => by
            have h1 := all_lk (TT.iter (tmV l p)) many k h0
            rw [← hk, ← he1] at h1
            exact Nat.le_trans h1 HSZ.out
          have hres : enc (tmV l i) = jnL 3 (allL (enc (TT.iter (tmV l p))) many more) := by rw [he1]; exact all_jn _ many more hpos
          have hmem := all_mem (TT.iter (tmV l p)) many more
          have hEn := enc_ne (TT.iter (tmV l p))
          have hEb := bdd_enc (TT.iter (tmV l p))
          have hEl : (enc (TT.iter (tmV l p))).length = (enc (tmV l p)).length + 1 := by rw [enc, unT_len]
          have hEu : unT (enc (tmV l p)) 8 0 = enc (TT.iter (tmV l p)) := rfl
          rw [hEu, ← hEl] at HU
          obtain ⟨E, hE⟩ : ∃ E, enc (TT.iter (tmV l p)) = E := ⟨_, rfl⟩
          rw [hE] at HU hlk hres hmem hEn hEb hEl
          have hE4 : E.length ≤ 401 := by omega
          have HRES := Lib.hid hres
          have HMEM := Lib.hid hmem
          have HLK := Lib.hid hlk
          have HPOS := Lib.hid hpos
          have HEN := Lib.hid hEn
          have HEB := Lib.hid hEb
          have HC2 := Lib.hid hc2
          rw [hkl]
          have hkl1 : [(p : Int)].length = 1 := rfl
          simp only [hkl1]
          have hmI : (i : Int) < (l.length : Int) := by omega
          have hHA := Lib.hid hA3
          clear HTE HTL HTG HTR HTC HTA hpa hv0' ho1' ho1 he1 hc1 hmr hco hpos hlk hres hmem hEn hEb hEu hE hEl hc2 hA3 HSM hik hck
          go_wp2_with fail
          refine HU.out.mono ?_
          rintro e w4 ⟨g1, c1, rfl, ho4, hk4, hg4⟩
          have hb4 : Below w1.heap.size wr w4 := hk4.toBelow (n := w1.heap.size) HBW0.out.size (fun x hx => by cases hx; exact hgx)
          have HBW4 := Lib.hid (HBW0.out.trans hb4)
          have hw4 := HBW4.out.size
          have HONE := Lib.hid ho4
          have hA4 := HA1.out.below HBW4.out
          have cn0 := hA4.nulls p (by omega)
          have hgn := hA4.nl
          have ckk4 := (hb4.cell (p := ⟨gk, 0, none⟩) hgk).trans ckk
          have hgk4 : gk < w4.heap.size := Nat.lt_of_lt_of_le hgk hw4
          have hg4' : g < w4.heap.size := Nat.lt_of_lt_of_le hg' hw4
          have e0 := (hb4.cell (p := ⟨g, off + i * 8, none⟩) hg').trans d0
          have e1 := (hb4.cell (p := ⟨g, off + i * 8 + 1, none⟩) hg').trans d1
          have e2 := (hb4.cell (p := ⟨g, off + i * 8 + 2, none⟩) hg').trans d2
          have e3 := (hb4.cell (p := ⟨g, off + i * 8 + 3, none⟩) hg').trans d3
          have e4 := (hb4.cell (p := ⟨g, off + i * 8 + 4, none⟩) hg').trans d4
          have e5 := (hb4.cell (p := ⟨g, off + i * 8 + 5, none⟩) hg').trans d5
          have e6 := (hb4.cell (p := ⟨g, off + i * 8 + 6, none⟩) hg').trans d6
          have e7 := (hb4.cell (p := ⟨g, off + i * 8 + 7, none⟩) hg').trans d7
          have hpp : (p : Int) < (l.length : Int) := by omega
          have hdp : decide (p < l.length) = true := by rw [decide_eq_true_iff]; omega
          clear d0 d1 d2 d3 d4 d5 d6 d7 ho4 hk4 hg4 hb4 hA4 ckk hHA HU hv0 HP HTM0
          go_upto_region 20 with fail
          refine region_steps (S := fun w' => Below w4.heap.size w4 w') (by kernel_rfl) (show Below w4.heap.size w4 w4.drew from ⟨rfl, rfl, rfl, Nat.le_refl _, fun _ _ => rfl⟩) ?_
          simp only [List.size_toArray, List.length_cons, List.length_nil, Nat.reduceAdd, Array.replicate_succ, Array.replicate_zero, List.push_toArray, List.nil_append, List.cons_append]
          refine AnyS.next (i := 0) (d := some 104) (v := .slice (some ⟨g, off, none⟩) l.length cap) rfl rfl (by kernel_rfl) (by kernel_rfl) (by kernel_rfl) (StepsIf.yield (by kernel_rfl) (fun w' hS => by clear hS; go_simp)) ?_
          intro a' ha'
          simp only [Act.put, List.setIfInBounds_toArray, List.set_cons_zero, List.set_cons_succ] at ha'
          subst ha'
          refine AnyS.next (i := 1) (d := some 105) (v := .int .i64 (i : Nat)) rfl rfl (by kernel_rfl) (by kernel_rfl) (by kernel_rfl) (StepsIf.yield (by kernel_rfl) (fun w' hS => by clear hS; go_simp)) ?_
          intro a' ha'
          simp only [Act.put, List.setIfInBounds_toArray, List.set_cons_zero, List.set_cons_succ] at ha'
          subst ha'
          refine AnyS.next (i := 2) (d := some 106) (v := .pointer (some ⟨g, off + i * 8, none⟩)) rfl rfl (by kernel_rfl) (by kernel_rfl) (by kernel_rfl) (StepsIf.yield (by kernel_rfl) (fun w' hS => by clear hS; go_simp)) ?_
          intro a' ha'
          simp only [Act.put, List.setIfInBounds_toArray, List.set_cons_zero, List.set_cons_succ] at ha'
          subst ha'
          refine AnyS.next (i := 3) (d := some 107) (v := .agg (ndI 4 kc kn km t)) rfl rfl (by kernel_rfl) (by kernel_rfl) (by kernel_rfl) (StepsIf.yield (by kernel_rfl) (fun w' hS => by have d0 := hS.cell (p := ⟨g, off + i * 8, none⟩) hg4' |>.trans e0; have d1 := hS.cell (p := ⟨g, off + i * 8 + 1, none⟩) hg4' |>.trans e1; have d2 := hS.cell (p := ⟨g, off + i * 8 + 2, none⟩) hg4' |>.trans e2; have d3 := hS.cell (p := ⟨g, off + i * 8 + 3, none⟩) hg4' |>.trans e3; have d4 := hS.cell (p := ⟨g, off + i * 8 + 4, none⟩) hg4' |>.trans e4; have d5 := hS.cell (p := ⟨g, off + i * 8 + 5, none⟩) hg4' |>.trans e5; have d6 := hS.cell (p := ⟨g, off + i * 8 + 6, none⟩) hg4' |>.trans e6; have d7 := hS.cell (p := ⟨g, off + i * 8 + 7, none⟩) hg4' |>.trans e7; clear hS; go_simp)) ?_
          intro a' ha'
          simp only [Act.put, List.setIfInBounds_toArray, List.set_cons_zero, List.set_cons_succ] at ha'
          subst ha'
          refine AnyS.next (i := 4) (d := some 108) (v := .slice (some ⟨gn, on, none⟩) l.length cn) rfl rfl (by kernel_rfl) (by kernel_rfl) (by kernel_rfl) (StepsIf.yield (by kernel_rfl) (fun w' hS => by clear hS; go_simp)) ?_
          intro a' ha'
          simp only [Act.put, List.setIfInBounds_toArray, List.set_cons_zero, List.set_cons_succ] at ha'
          subst ha'
          refine AnyS.next (i := 5) (d := some 109) (v := .slice (some ⟨gk, 0, none⟩) 1 ck) rfl rfl (by kernel_rfl) (by kernel_rfl) (by kernel_rfl) (StepsIf.yield (by kernel_rfl) (fun w' hS => by clear hS; go_simp)) ?_
          intro a' ha'
          simp only [Act.put, List.setIfInBounds_toArray, List.set_cons_zero, List.set_cons_succ] at ha'
          subst ha'
          refine AnyS.next (i := 6) (d := some 110) (v := .pointer (some ⟨gk, 0, none⟩)) rfl rfl (by kernel_rfl) (by kernel_rfl) (by kernel_rfl) (StepsIf.yield (by kernel_rfl) (fun w' hS => by clear hS; go_simp)) ?_
          intro a' ha'
          simp only [Act.put, List.setIfInBounds_toArray, List.set_cons_zero, List.set_cons_succ] at ha'
          subst ha'
          refine AnyS.next (i := 7) (d := some 111) (v := .int .i64 (p : Nat)) rfl rfl (by kernel_rfl) (by kernel_rfl) (by kernel_rfl) (StepsIf.yield (by kernel_rfl) (fun w' hS => by have c := hS.cell (p := ⟨gk, 0, none⟩) hgk4 |>.trans ckk4; clear hS; go_simp)) ?_
          intro a' ha'
          simp only [Act.put, List.setIfInBounds_toArray, List.set_cons_zero, List.set_cons_succ] at ha'
          subst ha'
          refine AnyS.next (i := 8) (d := some 112) (v := .pointer (some ⟨gn, on + p, none⟩)) rfl rfl (by kernel_rfl) (by kernel_rfl) (by kernel_rfl) (StepsIf.yield (by kernel_rfl) (fun w' hS => by clear hS; go_simp)) ?_
          intro a' ha'
          simp only [Act.put, List.setIfInBounds_toArray, List.set_cons_zero, List.set_cons_succ] at ha'
          subst ha'
          refine AnyS.next (i := 9) (d := some 113) (v := .bool (nulV l p)) rfl rfl (by kernel_rfl) (by kernel_rfl) (by kernel_rfl) (StepsIf.yield (by kernel_rfl) (fun w' hS => by have c := hS.cell (p := ⟨gn, on + p, none⟩) hgn |>.trans cn0; clear hS; go_simp)) ?_
          intro a' ha'
          simp only [Act.put, List.setIfInBounds_toArray, List.set_cons_zero, List.set_cons_succ] at ha'
          subst ha'
          refine AnyS.next (i := 10) (d := some 114) (v := .tuple #[.int .i64 (many : Nat), .int .i64 more]) rfl rfl (by kernel_rfl) (by kernel_rfl) (by kernel_rfl) (StepsIf.call (by kernel_rfl) (fun w' hS => by clear hS; go_simp) (fun w' hS => (HCO.out w').mono fun e w'' h => ⟨h.1, hS.trans (h.2.mono hS.size)⟩)) ?_
          intro a' ha'
          simp only [Act.put, List.setIfInBounds_toArray, List.set_cons_zero, List.set_cons_succ] at ha'
          subst ha'
          refine AnyS.next (i := 11) (d := some 103) (v := .tuple #[.int .i64 (many : Nat), .int .i64 more]) rfl rfl (by kernel_rfl) (by kernel_rfl) (by kernel_rfl) (StepsIf.yield (by kernel_rfl) (fun w' hS => by clear hS; go_simp)) ?_
          intro a' ha'
          simp only [Act.put, List.setIfInBounds_toArray, List.set_cons_zero, List.set_cons_succ] at ha'
          subst ha'
          refine AnyS.next (i := 12) (d := some 115) (v := .int .i64 (many : Nat)) rfl rfl (by kernel_rfl) (by kernel_rfl) (by kernel_rfl) (StepsIf.yield (by kernel_rfl) (fun w' hS => by clear hS; go_simp)) ?_
          intro a' ha'
          simp only [Act.put, List.setIfInBounds_toArray, List.set_cons_zero, List.set_cons_succ] at ha'
          subst ha'
          refine AnyS.next (i := 13) (d := some 116) (v := .int .i64 more) rfl rfl (by kernel_rfl) (by kernel_rfl) (by kernel_rfl) (StepsIf.yield (by kernel_rfl) (fun w' hS => by clear hS; go_simp)) ?_
          intro a' ha'
          simp only [Act.put, List.setIfInBounds_toArray, List.set_cons_zero, List.set_cons_succ] at ha'
          subst ha'
          refine AnyS.next (i := 14) (d := some 13) (v := .int .i64 (many : Nat)) rfl rfl (by kernel_rfl) (by kernel_rfl) (by kernel_rfl) (StepsIf.yield (by kernel_rfl) (fun w' hS => by clear hS; go_simp)) ?_
          intro a' ha'
          simp only [Act.put, List.setIfInBounds_toArray, List.set_cons_zero, List.set_cons_succ] at ha'
          subst ha'
          refine AnyS.next (i := 15) (d := some 14) (v := .int .i64 more) rfl rfl (by kernel_rfl) (by kernel_rfl) (by kernel_rfl) (StepsIf.yield (by kernel_rfl) (fun w' hS => by clear hS; go_simp)) ?_
          intro a' ha'
          simp only [Act.put, List.setIfInBounds_toArray, List.set_cons_zero, List.set_cons_succ] at ha'
          subst ha'
          refine AnyS.done (by kernel_rfl) (fun w5 hS => ?_) _
          have HO5 := Lib.hid (HONE.out.below hS)
          have HB5 := Lib.hid (HBW4.out.trans (hS.mono hw4))
          clear hS HONE HBW4 HCO cn0 ckk4 e0 e1 e2 e3 e4 e5 e6 e7 HBW0
          go_upto_region 23 with fail
          go_loopw [15, 16] (fun vp vj ws => ∃ j : Nat, j ≤ many ∧ vj = .int .i64 j ∧ (∃ vals, OwP w1.heap.size vp vals ws ∧ TmsIn w1.heap.size (List.replicate j E) vals ws) ∧ OwT w1.heap.size (.slice (some ⟨g1, 0, none⟩) E.length c1) E ws ∧ Below w1.heap.size w1 ws) (fun _ vj _ => many - (intOf vj).toNat)
          case atStart => exact ⟨0, Nat.zero_le _, rfl, ⟨[], World.ownsRow_nil _ _ _ _, TmsIn.nil _ _⟩, HO5.out, HB5.out⟩
          case round =>
            clear HO5 HB5
            obtain ⟨j, hj, rfl, ⟨vs, hp, htm⟩, ho, hB⟩ := hrel
            have hvs : vs.length = j := by have := htm.1; rw [List.length_replicate] at this; exact this
            have hw3 := hB.size
            have HP3 := Lib.hid hp
            have HTM := Lib.hid htm
            have HNEW := Lib.hid ho
            have HBW := Lib.hid hB
            clear hp htm ho hB
            by_cases hjl : j < many
            · have hjd : decide ((j : Int) < (many : Int)) = true := by rw [decide_eq_true_iff]; omega
              have hjd2 : decide (j < many) = true := decide_eq_true hjl
              have hjI : (j : Int) < (many : Int) := by omega
              have xj : IntKind.i64.wrap ((j : Int) + 1) = (j : Int) + 1 := IntWalk.i64_in _ (by omega)
              have hszA : w1.heap.size ≤ (wr.alloc (.cells #[.slice (some ⟨g1, 0, none⟩) E.length c1] 31)).heap.size := by rw [World.size_alloc]; omega
              have HAFT := Lib.hid (show ∀ v W9, W9.ownsRow w1.heap.size 31 1 v (vs.length + 1) (vs ++ [.slice (some ⟨g1, 0, none⟩) E.length c1]) → (wr.alloc (.cells #[.slice (some ⟨g1, 0, none⟩) E.length c1] 31)).grownBy W9 (u15).ownBlock → OwP w1.heap.size v (vs ++ [.slice (some ⟨g1, 0, none⟩) E.length c1]) W9 ∧ TmsIn w1.heap.size (List.replicate j E ++ [E]) (vs ++ [.slice (some ⟨g1, 0, none⟩) E.length c1]) W9 ∧ Below w1.heap.size w1 W9 ∧ (∀ u M, OwT w1.heap.size u M wr → OwT w1.heap.size u M W9) from fun v W9 h1 h2 => by
                have hal : Below wr.heap.size wr (wr.alloc (.cells #[.slice (some ⟨g1, 0, none⟩) E.length c1] 31)) := (Below.refl _ _).alloc (Nat.le_refl _) _
                have hk : ∀ u M, OwT w1.heap.size u M wr → OwT w1.heap.size u M W9 := fun u M hu => by
                  have hu2 := hu.below hal
                  refine World.ownsRow.kept hu2 h2 ?_
                  cases hb : u.ownBlock with
                  | none => exact .inl rfl
                  | some z => exact .inr (fun e => own_ne hu HP3.out hb e.symm)
                refine ⟨?_, (HTM.out.snoc _ _ _ HNEW.out).keep hk, (HBW.out.alloc HBW.out.size _).grown h2 hszA (fun b hb => (World.ownsRow.lt HP3.out b hb).1), hk⟩
                unfold OwP
                rw [List.length_append]
                exact h1)
              go_wp2_with (at_builtin; refine wpList_append_own _ rfl _ _ 94 rfl w1.heap.size 31 i0 (.slice none 0 0) 1 24 Tryd.underlying94 hinf hza hzb hzc rfl (by decide) _ vs.length vs rfl (HP3.out.alloc _) ⟨wr.heap.size, 0, none⟩ 1 1 [.slice (some ⟨g1, 0, none⟩) E.length c1] rfl rfl (Blk.new wr _ _).newsL (by simp [Value.oneCell']) (by unfold maxLen; omega) (by omega) hszA ?_; intro v9 w9 hown9 hgrow9 _; obtain ⟨hr1, hr2, hr3, hr4⟩ := HAFT.out v9 w9 hown9 hgrow9; have HR1 := Lib.hid hr1; have HR2 := Lib.hid hr2; have HR3 := Lib.hid hr3; have HR4 := Lib.hid hr4; clear hown9 hgrow9 hr1 hr2 hr3 hr4)
              go_roundw
              case rel => exact ⟨j + 1, by omega, by simp, ⟨_, HR1.out, by rw [List.replicate_succ']; exact HR2.out⟩, HR4.out _ _ HNEW.out, HR3.out⟩
              case measure => simp [intOf]; omega
            · obtain rfl : many = j := by omega
              have hjd : decide ((many : Int) < (many : Int)) = false := by simp
              clear hj hjl
              rcases HC2.out with rfl | ⟨k, rfl, hk9, hk0⟩
              · skip
                have hq1 : decide ((-1 : Int) = -1) = true := by decide
                have hq2 : decide ((0 : Int) < -1) = false := by decide
                obtain ⟨S5, hS5⟩ : ∃ S, unT E 5 0 = S := ⟨_, rfl⟩
                have hAll : allL E many (-1) = List.replicate many E ++ [S5] := by unfold allL; rw [if_pos rfl, hS5]
                have HSH := Lib.hid (shift_nil E HEN.out (by omega) HEB.out g1 c1 w1.heap.size wr HNEW.out)
                have HALL := Lib.hid hAll
                have HS5 := Lib.hid hS5
                clear hAll hS5
                go_wp2_with fail
                refine HSH.out.mono ?_
                rintro e w5 ⟨g5, c5, rfl, ho5, hb5⟩
                have hw5 := hb5.size
                have hu5 := unary_calls E (List.length_pos_iff.2 HEN.out) (by omega) 5 0 wr.heap.size _ w5 hw5 ho5
                rw [← unT_len E 5 0, HS5.out] at hu5
                have hg5 := (World.ownsRow.lt ho5 g5 rfl).1
                have HU5 := Lib.hid hu5
                have HB5 := Lib.hid hb5
                clear hu5 hb5 ho5 HSH
                go_wp2_with fail
                refine HU5.out.mono ?_
                rintro e w6 ⟨g6, c6, rfl, ho6, hk6, hg6⟩
                have hb6 : Below wr.heap.size wr w6 := HB5.out.trans (hk6.toBelow (n := wr.heap.size) hw5 (fun x hx => by cases hx; exact hg5))
                clear hk6 hg6 HU5 HB5
                have hw6 : w1.heap.size ≤ w6.heap.size := Nat.le_trans hw3 hb6.size
                have HP6 := Lib.hid (show OwP w1.heap.size _ vs w6 from owns_keep HP3.out fun z hz => hb6.block z (World.ownsRow.lt HP3.out z hz).2)
                have HTM := Lib.hid (HTM.out.below hb6)
                have HNEW := Lib.hid (ho6.mono hw3)
                have HBW := Lib.hid (HBW.out.trans (hb6.mono hw3))
                clear HP3 ho6 hb6
                have hszA : w1.heap.size ≤ (w6.alloc (.cells #[.slice (some ⟨g6, 0, none⟩) S5.length c6] 31)).heap.size := by rw [World.size_alloc]; omega
                have HAFT := Lib.hid (show ∀ v W9, W9.ownsRow w1.heap.size 31 1 v (vs.length + 1) (vs ++ [.slice (some ⟨g6, 0, none⟩) S5.length c6]) → (w6.alloc (.cells #[.slice (some ⟨g6, 0, none⟩) S5.length c6] 31)).grownBy W9 (u15).ownBlock → OwP w1.heap.size v (vs ++ [.slice (some ⟨g6, 0, none⟩) S5.length c6]) W9 ∧ TmsIn w1.heap.size (List.replicate many E ++ [S5]) (vs ++ [.slice (some ⟨g6, 0, none⟩) S5.length c6]) W9 ∧ Below w1.heap.size w1 W9 ∧ (∀ u M, OwT w1.heap.size u M w6 → OwT w1.heap.size u M W9) from fun v W9 h1 h2 => by
                  have hal : Below w6.heap.size w6 (w6.alloc (.cells #[.slice (some ⟨g6, 0, none⟩) S5.length c6] 31)) := (Below.refl _ _).alloc (Nat.le_refl _) _
                  have hk : ∀ u M, OwT w1.heap.size u M w6 → OwT w1.heap.size u M W9 := fun u M hu => by
                    have hu2 := hu.below hal
                    refine World.ownsRow.kept hu2 h2 ?_
                    cases hb : u.ownBlock with
                    | none => exact .inl rfl
                    | some z => exact .inr (fun e => own_ne hu HP6.out hb e.symm)
                  refine ⟨?_, (HTM.out.snoc _ _ _ HNEW.out).keep hk, (HBW.out.alloc HBW.out.size _).grown h2 hszA (fun b hb => (World.ownsRow.lt HP6.out b hb).1), hk⟩
                  unfold OwP
                  rw [List.length_append]
                  exact h1)
                go_wp2_with (at_builtin; refine wpList_append_own _ rfl _ _ 94 rfl w1.heap.size 31 i0 (.slice none 0 0) 1 24 Tryd.underlying94 hinf hza hzb hzc rfl (by decide) _ vs.length vs rfl (HP6.out.alloc _) ⟨w6.heap.size, 0, none⟩ 1 1 [.slice (some ⟨g6, 0, none⟩) S5.length c6] rfl rfl (Blk.new w6 _ _).newsL (by simp [Value.oneCell']) (by unfold maxLen; omega) (by omega) hszA ?_; intro v9 w9 hown9 hgrow9 _; obtain ⟨hr1, hr2, hr3, hr4⟩ := HAFT.out v9 w9 hown9 hgrow9; have HR1 := Lib.hid hr1; have HR2 := Lib.hid hr2; have HR3 := Lib.hid hr3; clear hown9 hgrow9 hr1 hr2 hr3 hr4)
                have HJ := Lib.hid (join_own 3 (allL E many (-1)) (all_ne E many (-1) (.inl rfl)) HMEM.out (by rw [← HRES.out]; have := HSZ.out; omega) (by have := all_le E many (-1); omega) (by rw [HALL.out]; exact HR2.out) HR1.out HR3.out.size)
                have HR3B := Lib.hid HR3.out
                clear hq1 hq2
                refine HJ.out.mono ?_
                rintro e w7 ⟨gv, cv, rfl, ho7, hb7⟩
                have HO := Lib.hid (ho7.mono HB1.out.size)
                have HB7 := Lib.hid (HB1.out.trans ((HR3B.out.trans (hb7.mono HR3B.out.size)).mono HB1.out.size))
                clear ho7 hb7 HJ
                go_wp2_with fail
                go_ret
                rw [HRES.out]
                exact ⟨gv, cv, rfl, HO.out, HB7.out⟩
              · rcases Nat.eq_zero_or_pos k with rfl | hkp
                · have hq1 : decide ((0 : Int) = -1) = false := by decide
                  have hq2 : decide ((0 : Int) < 0) = false := by decide
                  have hAll : allL E many ((0 : Nat) : Int) = List.replicate many E := by
                    unfold allL; rw [if_neg (by decide), if_neg (by decide), List.append_nil]
                  have HJ := Lib.hid (join_own 3 (allL E many ((0 : Nat) : Int)) (all_ne E many ((0 : Nat) : Int) HPOS.out) HMEM.out (by rw [← HRES.out]; have := HSZ.out; omega) (by have := all_le E many ((0 : Nat) : Int); omega) (by rw [hAll]; exact HTM.out) HP3.out HBW.out.size)
                  have HR3B := Lib.hid HBW.out
                  clear hq1 hq2
                  go_wp2_with fail
                  refine HJ.out.mono ?_
                  rintro e w7 ⟨gv, cv, rfl, ho7, hb7⟩
                  have HO := Lib.hid (ho7.mono HB1.out.size)
                  have HB7 := Lib.hid (HB1.out.trans ((HR3B.out.trans (hb7.mono HR3B.out.size)).mono HB1.out.size))
                  clear ho7 hb7 HJ
                  go_wp2_with fail
                  go_ret
                  rw [HRES.out]
                  exact ⟨gv, cv, rfl, HO.out, HB7.out⟩
                · skip
                  have hq1 : decide ((k : Int) = -1) = false := by rw [decide_eq_false_iff_not]; omega
                  have hq2 : decide ((0 : Int) < (k : Int)) = true := by rw [decide_eq_true_iff]; omega
                  have hq3 : ((k : Int) == -1) = false := by rw [beq_eq_false_iff_ne]; omega
                  have hq4 : decide (0 < k) = true := decide_eq_true hkp
                  have hAll : allL E many (k : Int) = List.replicate many E ++ [lkL E k] := by unfold allL; rw [if_neg (by omega), if_pos (by omega), Int.toNat_natCast]
                  obtain ⟨gq, cq, eq, _, hglq, hn⟩ := HNEW.out.nodes HEN.out
                  cases eq
                  have hlc := lacks_calls E (List.length_pos_iff.2 HEN.out) HEB.out k hkp (by have := HLK.out k rfl hkp; omega) g1 c1 wr hn hglq
                  obtain ⟨S5, hS5⟩ : ∃ S, lkL E k = S := ⟨_, rfl⟩
                  rw [hS5] at hlc hAll
                  have HSH := Lib.hid hlc
                  have HALL := Lib.hid hAll
                  clear hAll hS5 hlc hn hglq
                  go_wp2_with fail
                  refine HSH.out.mono ?_
                  rintro e w6 ⟨g6, c6, rfl, ho6, hb6⟩
                  clear HSH
                  have hw6 : w1.heap.size ≤ w6.heap.size := Nat.le_trans hw3 hb6.size
                  have HP6 := Lib.hid (show OwP w1.heap.size _ vs w6 from owns_keep HP3.out fun z hz => hb6.block z (World.ownsRow.lt HP3.out z hz).2)
                  have HTM := Lib.hid (HTM.out.below hb6)
                  have HNEW := Lib.hid (ho6.mono hw3)
                  have HBW := Lib.hid (HBW.out.trans (hb6.mono hw3))
                  clear HP3 ho6 hb6
                  have hszA : w1.heap.size ≤ (w6.alloc (.cells #[.slice (some ⟨g6, 0, none⟩) S5.length c6] 31)).heap.size := by rw [World.size_alloc]; omega
                  have HAFT := Lib.hid (show ∀ v W9, W9.ownsRow w1.heap.size 31 1 v (vs.length + 1) (vs ++ [.slice (some ⟨g6, 0, none⟩) S5.length c6]) → (w6.alloc (.cells #[.slice (some ⟨g6, 0, none⟩) S5.length c6] 31)).grownBy W9 (u15).ownBlock → OwP w1.heap.size v (vs ++ [.slice (some ⟨g6, 0, none⟩) S5.length c6]) W9 ∧ TmsIn w1.heap.size (List.replicate many E ++ [S5]) (vs ++ [.slice (some ⟨g6, 0, none⟩) S5.length c6]) W9 ∧ Below w1.heap.size w1 W9 ∧ (∀ u M, OwT w1.heap.size u M w6 → OwT w1.heap.size u M W9) from fun v W9 h1 h2 => by
                    have hal : Below w6.heap.size w6 (w6.alloc (.cells #[.slice (some ⟨g6, 0, none⟩) S5.length c6] 31)) := (Below.refl _ _).alloc (Nat.le_refl _) _
                    have hk : ∀ u M, OwT w1.heap.size u M w6 → OwT w1.heap.size u M W9 := fun u M hu => by
                      have hu2 := hu.below hal
                      refine World.ownsRow.kept hu2 h2 ?_
                      cases hb : u.ownBlock with
                      | none => exact .inl rfl
                      | some z => exact .inr (fun e => own_ne hu HP6.out hb e.symm)
                    refine ⟨?_, (HTM.out.snoc _ _ _ HNEW.out).keep hk, (HBW.out.alloc HBW.out.size _).grown h2 hszA (fun b hb => (World.ownsRow.lt HP6.out b hb).1), hk⟩
                    unfold OwP
                    rw [List.length_append]
                    exact h1)
                  go_wp2_with (at_builtin; refine wpList_append_own _ rfl _ _ 94 rfl w1.heap.size 31 i0 (.slice none 0 0) 1 24 Tryd.underlying94 hinf hza hzb hzc rfl (by decide) _ vs.length vs rfl (HP6.out.alloc _) ⟨w6.heap.size, 0, none⟩ 1 1 [.slice (some ⟨g6, 0, none⟩) S5.length c6] rfl rfl (Blk.new w6 _ _).newsL (by simp [Value.oneCell']) (by unfold maxLen; omega) (by omega) hszA ?_; intro v9 w9 hown9 hgrow9 _; obtain ⟨hr1, hr2, hr3, hr4⟩ := HAFT.out v9 w9 hown9 hgrow9; have HR1 := Lib.hid hr1; have HR2 := Lib.hid hr2; have HR3 := Lib.hid hr3; clear hown9 hgrow9 hr1 hr2 hr3 hr4)
                  have HJ := Lib.hid (join_own 3 (allL E many (k : Int)) (all_ne E many (k : Int) HPOS.out) HMEM.out (by rw [← HRES.out]; have := HSZ.out; omega) (by have := all_le E many (k : Int); omega) (by rw [HALL.out]; exact HR2.out) HR1.out HR3.out.size)
                  have HR3B := Lib.hid HR3.out
                  clear hq1 hq2
                  refine HJ.out.mono ?_
                  rintro e w7 ⟨gv, cv, rfl, ho7, hb7⟩
                  have HO := Lib.hid (ho7.mono HB1.out.size)
                  have HB7 := Lib.hid (HB1.out.trans ((HR3B.out.trans (hb7.mono HR3B.out.size)).mono HB1.out.size))
                  clear ho7 hb7 HJ
                  go_wp2_with fail
                  go_ret
                  rw [HRES.out]
                  exact ⟨gv, cv, rfl, HO.out, HB7.out⟩
        · rcases hk56 with rfl | rfl
          · skip
            have hKne : K ≠ [] := by intro h; rw [h] at hK; simp at hK
            have hkdne : kdT l K ≠ [] := by intro h; have := congrArg List.length h; rw [kdT_len] at this; exact hKne (List.length_eq_zero_iff.1 this)
            have HE1 := Lib.hid (show enc (tmV l i) = jnL 3 (kdT l K) from by rw [HTC.out rfl, HKD.out, jn_enc .cat 3 (fun _ _ => rfl) _ (by intro h; have := congrArg List.length h; rw [List.length_map] at this; exact hKne (List.length_eq_zero_iff.1 this)), List.map_map]; rfl)
            obtain ⟨gp, cp, rfl, hcp, hpa⟩ := HTM0.out.parts (kdT_ne l K) hkdne HP.out
            have hj := join_calls 3 (kdT l K) hkdne (fun L hL => ⟨kdT_ne l K L hL, kdT_bdd l K L hL⟩) (by rw [← HE1.out]; have := HSZ.out; omega) (by rw [kdT_len]; omega) gp 0 cp hcp wr hpa
            have HJ := Lib.hid hj
            have HKL := Lib.hid (kdT_len l K)
            clear hpa hj hKne hkdne
            go_wp2_with fail
            refine HJ.out.mono ?_
            rintro e w4 ⟨v4, rfl, ⟨h0, _, _⟩ | ⟨gv, cv, rfl, ho4, hb4⟩⟩
            · rw [HKL.out] at h0; omega
            have HO := Lib.hid ho4
            have HB4 := Lib.hid (HB1.out.trans ((HBW0.out.trans (hb4.mono HBW0.out.size)).mono HB1.out.size))
            clear ho4 hb4 HJ
            go_wp2_with fail
            go_ret
            rw [HE1.out]
            exact ⟨gv, cv, rfl, HO.out.mono (Nat.le_trans HB1.out.size HBW0.out.size), HB4.out⟩
          · skip
            have hKne : K ≠ [] := by intro h; rw [h] at hK; simp at hK
            have hkdne : kdT l K ≠ [] := by intro h; have := congrArg List.length h; rw [kdT_len] at this; exact hKne (List.length_eq_zero_iff.1 this)
            have HE1 := Lib.hid (show enc (tmV l i) = jnL 4 (kdT l K) from by rw [HTA.out rfl, HKD.out, jn_enc .alt 4 (fun _ _ => rfl) _ (by intro h; have := congrArg List.length h; rw [List.length_map] at this; exact hKne (List.length_eq_zero_iff.1 this)), List.map_map]; rfl)
            obtain ⟨gp, cp, rfl, hcp, hpa⟩ := HTM0.out.parts (kdT_ne l K) hkdne HP.out
            have hj := join_calls 4 (kdT l K) hkdne (fun L hL => ⟨kdT_ne l K L hL, kdT_bdd l K L hL⟩) (by rw [← HE1.out]; have := HSZ.out; omega) (by rw [kdT_len]; omega) gp 0 cp hcp wr hpa
            have HJ := Lib.hid hj
            have HKL := Lib.hid (kdT_len l K)
            clear hpa hj hKne hkdne
            go_wp2_with fail
            refine HJ.out.mono ?_
            rintro e w4 ⟨v4, rfl, ⟨h0, _, _⟩ | ⟨gv, cv, rfl, ho4, hb4⟩⟩
            · rw [HKL.out] at h0; omega
            have HO := Lib.hid ho4
            have HB4 := Lib.hid (HB1.out.trans ((HBW0.out.trans (hb4.mono HBW0.out.size)).mono HB1.out.size))
            clear ho4 hb4 HJ
            go_wp2_with fail
            go_ret
            rw [HE1.out]
            exact ⟨gv, cv, rfl, HO.out.mono (Nat.le_trans HB1.out.size HBW0.out.size), HB4.out⟩
theorem rNode_calls (l : List NdN) (hr : rightR l = true) (hl : l.length ≤ 1000) (a : Option Addr) (cap gn on cn gm om cm : Nat) : ∀ m i, i ≤ m → i < l.length → szV l i ≤ 400 → NodeG l a cap gn on cn gm om cm i := by
  intro m
  induction m with
  | zero => exact fun i him hi hs => node_step l hr hl i hi hs a cap gn on cn gm om cm (fun x hx => by omega)
  | succ m ih => exact fun i him hi hs => node_step l hr hl i hi hs a cap gn on cn gm om cm (fun x hx hxl hxs => ih x (by omega) hxl hxs)
end Go.Proofs.YtpncomjpmilbkaaDoor

/- Parts of a term: function values that put a term's nodes behind a list. Stage 11. -/
namespace Go.Proofs.YtpncomjpmilbkaaDoor
open Go.RowKit BS

/-! ### Plainly -/
theorem shN_shN (a b : Nat) (x : NdN) : shN a (shN b x) = shN (a + b) x := by
  obtain ⟨k, c, n, m, t⟩ := x
  unfold shN
  simp only [NdN.mk.injEq, true_and, and_true]
  constructor
  · by_cases h : 0 ≤ c
    · rw [if_pos h, if_pos h, if_pos (by omega)]; omega
    · rw [if_neg h, if_neg h, if_neg h]
  · by_cases h : 0 ≤ n
    · rw [if_pos h, if_pos h, if_pos (by omega)]; omega
    · rw [if_neg h, if_neg h, if_neg h]
theorem behL_behL (L A B : List NdN) : behL (behL L A) B = behL L (behL A B) := by
  unfold behL
  rw [List.map_append, List.length_append, List.length_map, List.map_map, List.append_assoc]
  congr 2
  exact List.map_congr_left fun x _ => (shN_shN _ _ _).symm
theorem behL_one (L : List NdN) (k u v m : Int) (t : BitVec 256) (A : List NdN) :
    behL L (A ++ [⟨k, u, v, m, t⟩]) = behL L A ++ [⟨k, if 0 ≤ u then u + L.length else u, if 0 ≤ v then v + L.length else v, m, t⟩] := by
  unfold behL
  rw [List.map_append, ← List.append_assoc]
  rfl
/-- A node with its parts' nodes ahead. -/
def ndT (k n : Int) (t : BitVec 256) : List (List NdN) → List NdN
  | [] => [⟨k, -1, -1, n, t⟩]
  | [A] => A ++ [⟨k, (A.length : Int) - 1, -1, n, t⟩]
  | A :: B :: _ => behL A B ++ [⟨k, (A.length : Int) - 1, (A.length : Int) + B.length - 1, n, t⟩]
theorem ndT_un (k n : Int) (A : List NdN) : ndT k n 0 [A] = unT A k n := rfl
theorem ndT_join (k : Int) (A B : List NdN) : ndT k 0 0 [A, B] = joinT A B k := rfl
/-- Lists behind a list, one by one. -/
def accL (L : List NdN) : List (List NdN) → List NdN
  | [] => L
  | A :: r => accL (behL L A) r
theorem accL_snoc (L : List NdN) : ∀ (Ls : List (List NdN)) (A : List NdN), accL L (Ls ++ [A]) = behL (accL L Ls) A
  | [], _ => rfl
  | B :: r, A => accL_snoc (behL L B) r A
def sumL (Ls : List (List NdN)) : Nat := (Ls.map List.length).sum
theorem accL_len (L : List NdN) : ∀ Ls : List (List NdN), (accL L Ls).length = L.length + sumL Ls
  | [] => rfl
  | A :: r => by
    rw [accL, accL_len _ r, behL_len]
    simp [sumL]
    omega
/-- What stands for the k-th part: the place of its last node. -/
def rtT (L : List NdN) (Ts : List (List NdN)) (i k : Nat) : Int := if k < i ∧ k < Ts.length then ((accL L (Ts.take (k + 1))).length : Int) - 1 else -1
theorem nd_acc (L : List NdN) (k n : Int) (t : BitVec 256) : ∀ Ts : List (List NdN), Ts.length ≤ 2 → (∀ T ∈ Ts, T ≠ []) →
    accL L Ts ++ [⟨k, rtT L Ts Ts.length 0, rtT L Ts Ts.length 1, n, t⟩] = behL L (ndT k n t Ts)
  | [], _, _ => by
    have e := behL_one L k (-1) (-1) n t []
    rw [List.nil_append] at e
    show _ = behL L [_]
    rw [e]
    simp [accL, rtT, behL]
  | [A], _, hne => by
    have hA : 0 < A.length := List.length_pos_iff.2 (hne A (List.mem_singleton.2 rfl))
    have e := behL_one L k ((A.length : Int) - 1) (-1) n t A
    show _ = behL L (A ++ [_])
    rw [e]
    have h0 : rtT L [A] 1 0 = (A.length : Int) - 1 + L.length := by
      unfold rtT
      rw [if_pos (by simp)]
      show ((accL L [A]).length : Int) - 1 = _
      rw [accL_len]
      simp [sumL]
      omega
    have h1 : rtT L [A] 1 1 = -1 := by
      unfold rtT
      rw [if_neg (by simp)]
    show accL L [A] ++ [(⟨k, rtT L [A] 1 0, rtT L [A] 1 1, n, t⟩ : NdN)] = _
    rw [h0, h1, if_pos (by omega), if_neg (by omega)]
    rfl
  | [A, B], _, hne => by
    have hA : 0 < A.length := List.length_pos_iff.2 (hne A (List.mem_cons_self ..))
    have hB : 0 < B.length := List.length_pos_iff.2 (hne B (List.mem_cons_of_mem _ (List.mem_singleton.2 rfl)))
    have e := behL_one L k ((A.length : Int) - 1) ((A.length : Int) + B.length - 1) n t (behL A B)
    show _ = behL L (behL A B ++ [_])
    rw [e]
    have h0 : rtT L [A, B] 2 0 = (A.length : Int) - 1 + L.length := by
      unfold rtT
      rw [if_pos (by simp)]
      show ((accL L [A]).length : Int) - 1 = _
      rw [accL_len]
      simp [sumL]
      omega
    have h1 : rtT L [A, B] 2 1 = (A.length : Int) + B.length - 1 + L.length := by
      unfold rtT
      rw [if_pos (by simp)]
      show ((accL L [A, B]).length : Int) - 1 = _
      rw [accL_len]
      simp [sumL]
      omega
    show accL L [A, B] ++ [(⟨k, rtT L [A, B] 2 0, rtT L [A, B] 2 1, n, t⟩ : NdN)] = _
    rw [h0, h1, if_pos (by omega), if_pos (by omega)]
    show behL (behL L A) B ++ _ = _
    rw [behL_behL]
  | _ :: _ :: _ :: _, h, _ => absurd h (by simp)
theorem ndT_len (k n : Int) (t : BitVec 256) : ∀ Ts : List (List NdN), Ts.length ≤ 2 → (ndT k n t Ts).length = sumL Ts + 1
  | [], _ => rfl
  | [A], _ => by simp [ndT, sumL]
  | [A, B], _ => by simp [ndT, sumL, behL]; omega
  | _ :: _ :: _ :: _, h => absurd h (by simp)
theorem sum_take (Ts : List (List NdN)) (i : Nat) (h : i < Ts.length) : sumL (Ts.take (i + 1)) = sumL (Ts.take i) + Ts[i].length := by
  rw [List.take_succ_eq_append_getElem h]
  unfold sumL
  rw [List.map_append, List.sum_append]
  simp
theorem sum_take_le (Ts : List (List NdN)) (i : Nat) : sumL (Ts.take i) ≤ sumL Ts := by
  have : sumL Ts = sumL (Ts.take i) + sumL (Ts.drop i) := by
    conv => lhs; rw [← List.take_append_drop i Ts]
    unfold sumL
    rw [List.map_append, List.sum_append]
  omega
/-! ### Function values -/
/-- A call of the function puts T's nodes behind a list of the call's own. -/
def Puts (T : List NdN) (gf : Nat) (caps : Array Value) (W : World) : Prop :=
  ∀ (base : Nat) (s : Value) (L : List NdN), base ≤ W.heap.size → OwT base s L W → L.length + T.length ≤ 1000 →
    Calls Tryd.prog gf (#[s] ++ caps) W fun e w' => ∃ g cap, e = .returned (.slice (some ⟨g, 0, none⟩) (L.length + T.length) cap) ∧ OwT base (.slice (some ⟨g, 0, none⟩) (L.length + T.length) cap) (behL L T) w' ∧ KpA (fun x => s.ownBlock = some x) W w' ∧ (s.ownBlock = some g ∨ W.heap.size ≤ g)
/-- A value that puts T's nodes behind a list, from a world on, whatever becomes of the blocks of A, and of new ones. -/
def PartAt (A : Nat → Prop) (v : Value) (T : List NdN) (W : World) : Prop :=
  ∃ gf caps, v = .func (.func gf) #[] caps ∧ (∀ args w, (callFunc gf args).run Tryd.prog w = .ok (.enter gf args) w) ∧
  ∀ W', KpA A W W' → ∀ (base : Nat) (s : Value) (L : List NdN), base ≤ W'.heap.size → OwT base s L W' → L.length + T.length ≤ 1000 → (∀ b, s.ownBlock = some b → A b ∨ W.heap.size ≤ b) →
    Calls Tryd.prog gf (#[s] ++ caps) W' fun e w' => ∃ g cap, e = .returned (.slice (some ⟨g, 0, none⟩) (L.length + T.length) cap) ∧ OwT base (.slice (some ⟨g, 0, none⟩) (L.length + T.length) cap) (behL L T) w' ∧ KpA (fun x => s.ownBlock = some x) W' w' ∧ (s.ownBlock = some g ∨ W'.heap.size ≤ g)
theorem PartAt.kp {A : Nat → Prop} {v : Value} {T : List NdN} {W W' : World} (h : PartAt A v T W) (k : KpA A W W') : PartAt A v T W' := by
  obtain ⟨gf, caps, hv, eg, hp⟩ := h
  exact ⟨gf, caps, hv, eg, fun W2 k2 base s L hb ho hl hs => hp W2 (k.trans k2) base s L hb ho hl fun b hb2 => (hs b hb2).imp id fun h => Nat.le_trans k.size h⟩
theorem kp_of_below {A : Nat → Prop} {W W' : World} (h : Below W.heap.size W W') : KpA A W W' := (KpA.refl A W).below h
theorem PartAt.below {A : Nat → Prop} {v : Value} {T : List NdN} {W W' : World} (h : PartAt A v T W) (hb : Below W.heap.size W W') : PartAt A v T W' := h.kp (kp_of_below hb)
theorem PartAt.one {A : Nat → Prop} {v : Value} {T : List NdN} {W : World} (h : PartAt A v T W) : v.oneCell' = true := by
  obtain ⟨gf, caps, rfl, _⟩ := h
  rfl
/-- What is kept outside of a slice's block is kept outside of A, if the block is one of A's or new. -/
theorem kp_in {A : Nat → Prop} {s : Value} {W0 W W' : World} (k0 : KpA A W0 W) (hs : ∀ b, s.ownBlock = some b → A b ∨ W0.heap.size ≤ b) (k : KpA (fun x => s.ownBlock = some x) W W') : KpA A W0 W' :=
  ⟨k.os.trans k0.os, k.tape.trans k0.tape, k.output.trans k0.output, Nat.le_trans k0.size k.size, fun i hi hA => (k.block i (Nat.lt_of_lt_of_le hi k0.size) fun e => (hs i e).elim hA (fun h => by omega)).trans (k0.block i hi hA)⟩
/-- A part that bears A bears a slice's own block, from a later world on. -/
theorem PartAt.own {A : Nat → Prop} {v s : Value} {T : List NdN} {W0 W : World} (h : PartAt A v T W0) (k : KpA A W0 W) (hs : ∀ b, s.ownBlock = some b → A b ∨ W0.heap.size ≤ b) : PartAt (fun x => s.ownBlock = some x) v T W := by
  obtain ⟨gf, caps, hv, eg, hp⟩ := h
  exact ⟨gf, caps, hv, eg, fun W2 k2 base s2 L hb ho hl hs2 => hp W2 (kp_in k hs k2) base s2 L hb ho hl fun b hb2 => (hs2 b hb2).elim (hs b) fun h => .inr (Nat.le_trans k.size h)⟩
/-- Parts in a row of cells. -/
def PtsAt (A : Nat → Prop) (Ts : List (List NdN)) (a : Option Addr) (W : World) : Prop :=
  Ts ≠ [] → ∃ g o, a = some ⟨g, o, none⟩ ∧ g < W.heap.size ∧ ¬ A g ∧ ∀ i (h : i < Ts.length), ∃ v, W.cell? ⟨g, o + i, none⟩ = some v ∧ PartAt A v Ts[i] W
theorem PtsAt.kp {A : Nat → Prop} {Ts : List (List NdN)} {a : Option Addr} {W W' : World} (h : PtsAt A Ts a W) (k : KpA A W W') : PtsAt A Ts a W' := fun hne => by
  obtain ⟨g, o, e, hg, hA, hc⟩ := h hne
  refine ⟨g, o, e, Nat.lt_of_lt_of_le hg k.size, hA, fun i hi => ?_⟩
  obtain ⟨v, h1, h2⟩ := hc i hi
  exact ⟨v, (k.cell hg hA (o + i)).trans h1, h2.kp k⟩
theorem PtsAt.below {A : Nat → Prop} {Ts : List (List NdN)} {a : Option Addr} {W W' : World} (h : PtsAt A Ts a W) (hb : Below W.heap.size W W') : PtsAt A Ts a W' := h.kp (kp_of_below hb)
theorem PtsAt.nil (A : Nat → Prop) (a : Option Addr) (W : World) : PtsAt A [] a W := fun h => absurd rfl h
/-- A row of parts of the call's own. -/
def OwF (base : Nat) (A : Nat → Prop) (v : Value) (Ts : List (List NdN)) (W : World) : Prop :=
  ∃ vals : List Value, vals.length = Ts.length ∧ W.ownsRow base 63 1 v Ts.length vals ∧ ∀ i (h : i < Ts.length), ∃ u, vals[i]? = some u ∧ PartAt A u Ts[i] W
theorem OwF.pts {base : Nat} {A : Nat → Prop} {v : Value} {Ts : List (List NdN)} {W : World} (h : OwF base A v Ts W) (hA : ∀ k, A k → k < base) : ∃ a cap, v = .slice a Ts.length cap ∧ PtsAt A Ts a W := by
  obtain ⟨vals, hlen, ho, hp⟩ := h
  rcases ho.2 with ⟨rfl, h0⟩ | ⟨g, cap, cur, rfl, hb, hg, _⟩
  · exact ⟨none, 0, by rw [h0], fun hne => absurd (List.eq_nil_of_length_eq_zero h0) hne⟩
  · refine ⟨some ⟨g, 0, none⟩, cap, rfl, fun _ => ⟨g, 0, rfl, (Array.getElem?_eq_some_iff.1 hg).1, fun h => by have := hA g h; omega, fun i hi => ?_⟩⟩
    obtain ⟨u, h1, h2⟩ := hp i hi
    rw [Nat.zero_add]
    exact ⟨u, (World.ownsRow.cellAt ho i (by omega)).trans h1, h2⟩
end Go.Proofs.YtpncomjpmilbkaaDoor

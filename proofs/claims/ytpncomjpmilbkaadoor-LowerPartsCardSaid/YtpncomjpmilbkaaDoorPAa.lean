/- Texts put together: Qj Qk. -/
import Derived.Test.YtpncomjpmilbkaaDoorPY
import Derived.Test.YtpncomjpmilbkaaDoorPQ
/- The developers' lower: what a node adds to the size of its kids. Stage 11. -/
namespace Go.Proofs.YtpncomjpmilbkaaDoor
open Go.RowKit BS

/-- A node's own nodes, its own Leafs, and how often each kid is there. -/
def owA (x : NdN) (nl : Bool) : Nat := if x.kind = 2 then 1 else if x.kind = 5 ∨ x.kind = 6 then (x.kids - 1).toNat else if x.kind = 4 then arN (cS x nl) (cL x nl) (cT x) else 1
def owL (x : NdN) : Nat := if x.kind = 2 then 1 else 0
def owO (x : NdN) (nl : Bool) : Nat := if x.kind = 4 then cS x nl + cL x nl + cT x else 1
theorem of_sz (t : TT) (s l st : Nat) (hst : st ≤ 1) : szT (ofC t s l st) = arN s l st + (s + l + st) * szT t := by
  unfold ofC arN
  by_cases h0 : s + l + st = 0
  · rw [if_pos h0, if_pos h0, h0]
    simp [szT]
  · rw [if_neg h0, if_neg h0, jn_sz .cat (fun _ _ => rfl) _ (by
      intro e
      have := congrArg List.length e
      simp at this
      omega)]
    simp only [sumB, List.map_append, List.sum_append, List.length_append, List.length_replicate, List.map_replicate, List.sum_replicate_nat]
    have e1 : szT (.iter t) = szT t + 1 := rfl
    have e2 : szT (.star (.iter t)) = szT t + 2 := rfl
    rcases Nat.eq_zero_or_pos st with h1 | h1
    · subst h1
      rw [if_neg (by omega)]
      rcases Nat.eq_zero_or_pos l with h2 | h2
      · subst h2
        rw [if_neg (by omega), e1]
        simp [Nat.mul_add]
        omega
      · rw [if_pos h2]
        have e3 := lk_sz (.iter t) l h2
        simp only [List.map_cons, List.map_nil, List.sum_cons, List.sum_nil, List.length_cons, List.length_nil, e3, e1, Nat.add_mul, Nat.mul_add]
        omega
    · obtain rfl : st = 1 := by omega
      rw [if_pos h1]
      rcases Nat.eq_zero_or_pos l with h2 | h2
      · subst h2
        rw [if_neg (by omega)]
        simp only [List.map_cons, List.map_nil, List.sum_cons, List.sum_nil, List.length_cons, List.length_nil, e1, e2, Nat.add_mul, Nat.mul_add]
        omega
      · rw [if_pos h2]
        have e3 := lk_sz (.iter t) l h2
        simp only [List.map_cons, List.map_nil, List.sum_cons, List.sum_nil, List.length_cons, List.length_nil, e3, e1, e2, Nat.add_mul, Nat.mul_add]
        omega
theorem of_lv (t : TT) (s l st : Nat) (hst : st ≤ 1) : lvT (ofC t s l st) = (s + l + st) * lvT t := by
  unfold ofC
  by_cases h0 : s + l + st = 0
  · rw [if_pos h0, h0, Nat.zero_mul]; rfl
  · rw [if_neg h0, jn_lv .cat (fun _ _ => rfl)]
    simp only [sumB, List.map_append, List.sum_append, List.map_replicate, List.sum_replicate_nat]
    have e1 : lvT (.iter t) = lvT t := rfl
    have e2 : lvT (.star (.iter t)) = lvT t := rfl
    have e3 := lk_lv (.iter t) l
    rcases Nat.eq_zero_or_pos st with h1 | h1
    · subst h1
      rw [if_neg (by omega)]
      rcases Nat.eq_zero_or_pos l with h2 | h2
      · subst h2
        rw [if_neg (by omega), e1]
        simp
      · rw [if_pos h2]
        simp only [List.map_cons, List.map_nil, List.sum_cons, List.sum_nil, e3, e1, Nat.add_mul]
        omega
    · obtain rfl : st = 1 := by omega
      rw [if_pos h1]
      rcases Nat.eq_zero_or_pos l with h2 | h2
      · subst h2
        rw [if_neg (by omega)]
        simp only [List.map_cons, List.map_nil, List.sum_cons, List.sum_nil, e1, e2, Nat.add_mul]
        omega
      · rw [if_pos h2]
        simp only [List.map_cons, List.map_nil, List.sum_cons, List.sum_nil, e3, e1, e2, Nat.add_mul]
        omega
/-- What the developers make of a Rep is what the document makes of it. -/
theorem tm_of (l : List NdN) (hr : rightR l = true) (i : Nat) (hi : i < l.length) (hk : l[i].kind = 4) (a : Nat) (hK : kidsR l i = [(a : Int)]) (hn : rightN l[i].n l[i].m = true) : tmV l i = ofC (tmV l a) (cS l[i] (nulV l a)) (cL l[i] (nulV l a)) (cT l[i]) := by
  rw [of_all _ _ _ hn]
  by_cases hm : l[i].m = 0
  · rw [if_pos hm, tm_eps l hr i hi (.inr ⟨hk, hm⟩)]
  · rw [if_neg hm, tm_rep l hr i hi hk hm a hK]
/-- **A node's term is as great as the node's own, and so often each kid's.** -/
theorem own_sz (l : List NdN) (hr : rightR l = true) (i : Nat) (hi : i < l.length) :
    szV l i = owA l[i] (nulV l ((kidsR l i).headD 0).toNat) + owO l[i] (nulV l ((kidsR l i).headD 0).toNat) * smN (szV l) (kidsR l i) ∧
    lvV l i = owL l[i] + owO l[i] (nulV l ((kidsR l i).headD 0).toNat) * smN (lvV l) (kidsR l i) := by
  unfold owA owL owO
  rcases node_right l hr i hi with ⟨hk, hK⟩ | ⟨hk, hK⟩ | ⟨a, hk, hK, ha⟩ | ⟨a, hk, hK, ha, hn⟩ | ⟨hk, hK⟩
  · have e := tm_eps l hr i hi (.inl hk)
    unfold szV lvV
    rw [e, hk, hK]
    exact ⟨rfl, rfl⟩
  · have e := tm_leaf l hr i hi hk
    unfold szV lvV
    rw [e, hk, hK]
    exact ⟨rfl, rfl⟩
  · have e := tm_grp l hr i hi hk a hK
    unfold szV lvV
    rw [e, hk, hK]
    simp only [smN, List.map_cons, List.map_nil, List.sum_cons, List.sum_nil, Nat.add_zero, Int.toNat_natCast, szT, lvT]
    rw [if_neg (by omega), if_neg (by omega), if_neg (by omega), if_neg (by omega), if_neg (by omega)]
    omega
  · have e := tm_of l hr i hi hk a hK hn
    have h1 := (cSLT_le l[i] (nulV l a) hn).2.2.1
    unfold szV lvV
    rw [e, of_sz _ _ _ _ h1, of_lv _ _ _ _ h1, hk, hK]
    simp only [smN, List.map_cons, List.map_nil, List.sum_cons, List.sum_nil, Nat.add_zero, Int.toNat_natCast, List.headD_cons]
    refine ⟨?_, ?_⟩ <;> simp
  · have hne : (kidsR l i).map (fun k => tmV l k.toNat) ≠ [] := by intro h; have := congrArg List.length h; simp at this; rw [this] at hK; simp at hK
    have hkl := kids_len l (right_formed l hr) i hi
    have e1 : szT (tmV l i) = smN (szV l) (kidsR l i) + ((kidsR l i).length - 1) := by
      rcases hk with hk | hk
      · rw [tm_cat l hr i hi hk, jn_sz .cat (fun _ _ => rfl) _ hne, sum_kids, List.length_map]; rfl
      · rw [tm_alt l hr i hi hk, jn_sz .alt (fun _ _ => rfl) _ hne, sum_kids, List.length_map]; rfl
    have e2 : lvT (tmV l i) = smN (lvV l) (kidsR l i) := by
      rcases hk with hk | hk
      · rw [tm_cat l hr i hi hk, jn_lv .cat (fun _ _ => rfl), sum_kids]; rfl
      · rw [tm_alt l hr i hi hk, jn_lv .alt (fun _ _ => rfl), sum_kids]; rfl
    rw [if_neg (by omega), if_pos hk, if_neg (by omega), if_neg (by omega)]
    rw [show szV l i = szT (tmV l i) from rfl, show lvV l i = lvT (tmV l i) from rfl, e1, e2]
    omega
theorem results_cell1 {P : Program} {fn : Func} {p a : Tmp} {ty : TypeId} (h : fn.results = #[.cell p ty, .tmp a]) (tmps : Array Value) (w : World) (g : Nat) (t : TypeId) (cs : Array Value) (fr : Nat × Nat) (d : TypeDesc)
    (hp : tmps.getD p undef = .pointer (some ⟨g, 0, none⟩)) (hg : w.heap[g]? = some (.cells cs t fr))
    (hu : P.underlying ty = some d) (hd : (match d with | .struct _ | .array _ _ => true | _ => false) = true) (hi : (P.info? ty).map (·.size) = some cs.size) :
    (results fn tmps).run P w = .ok (.tuple #[.agg cs, tmps.getD a undef]) w := by
  have hp' : tmps[p]?.getD undef = .pointer (some ⟨g, 0, none⟩) := by simpa using hp
  simp [results, h, hp', asAddr, run_loadVar_row w g t ty cs fr d hg hu hd hi]
set_option maxRecDepth 100000 in
set_option maxHeartbeats 16000000 in
theorem share_calls (l : List NdN) (hl : l.length ≤ 1000) (hr : rightR l = true) (i : Nat) (hi : i < l.length) (a : Option Addr) (ca gk : Nat) (am : Option Addr) (cm gz : Nat) (w : World) (h : TreeN l l.length l.length a gk am gz w) :
    Calls Tryd.prog 41 #[.agg (treeC l.length a ca gk am cm gz), .int .i64 i] w fun e w' => e = .returned (.tuple #[.agg #[.int .i64 (owA l[i] (nulV l ((kidsR l i).headD 0).toNat) : Nat), .int .i64 (owL l[i] : Nat)], .int .i64 (owO l[i] (nulV l ((kidsR l i).headD 0).toNat) : Nat)]) ∧ Below w.heap.size w w' := by
  have HCP := Lib.hid (fun hk W hW => lcopies_calls l hl hr i hi hk a ca gk am cm gz W hW)
  have HTR := Lib.hid h
  have HRN := Lib.hid (show l[i].kind = 4 → rightN l[i].n l[i].m = true from fun h4 => by
    rcases node_right l hr i hi with ⟨hk, _⟩ | ⟨hk, _⟩ | ⟨_, hk, _⟩ | ⟨b, _, hK, hb, hn⟩ | ⟨hk, _⟩
    · omega
    · omega
    · omega
    · exact hn
    · omega)
  have hkl := kids_len l (right_formed l hr) i hi
  have hkb := kids_le l i
  have hk56 : Hid ((l[i].kind = 5 ∨ l[i].kind = 6) → 1 ≤ l[i].kids) := Lib.hid fun h56 => by
    rcases node_right l hr i hi with ⟨hk, _⟩ | ⟨hk, _⟩ | ⟨_, hk, _⟩ | ⟨_, hk, _⟩ | ⟨hk, hK⟩ <;> omega
  rw [show l[i].kids = ((kidsR l i).length : Int) from hkl.symm] at hk56
  have hkl2 := Lib.hid hkl
  obtain ⟨g, off, rfl, hg, hc⟩ := h.nodes (by intro e; subst e; simp at hi)
  have d0 := hc i hi 0 (by decide); have d1 := hc i hi 1 (by decide); have d2 := hc i hi 2 (by decide); have d3 := hc i hi 3 (by decide); have d4 := hc i hi 4 (by decide); have d5 := hc i hi 5 (by decide); have d6 := hc i hi 6 (by decide); have d7 := hc i hi 7 (by decide)
  generalize (kidsR l i).length = KL at *
  generalize nulV l ((kidsR l i).headD 0).toNat = nl at *
  clear hc h
  generalize l[i] = x at *
  obtain ⟨k, kc, n, m, t⟩ := x
  simp only [ndA, List.getElem?_toArray, List.getElem?_cons_zero, List.getElem?_cons_succ, Nat.add_zero] at d0 d1 d2 d3 d4 d5 d6 d7
  simp only at hkl
  obtain ⟨RES, hRES⟩ : ∃ R, Ending.returned (.tuple #[.agg #[.int .i64 (owA ⟨k, kc, n, m, t⟩ nl : Nat), .int .i64 (owL ⟨k, kc, n, m, t⟩ : Nat)], .int .i64 (owO ⟨k, kc, n, m, t⟩ nl : Nat)]) = R := ⟨_, rfl⟩
  rw [hRES]
  have HRES := Lib.hid hRES
  have hb1 : Below w.heap.size w (((w.alloc (.cells (treeC l.length (some ⟨g, off, none⟩) ca gk am cm gz) 52)).alloc (.cells #[.int .i64 0, .int .i64 0] 57)).alloc (.cells (ndI k kc n m t) 46)) := (((Below.refl _ _).alloc (Nat.le_refl _) _).alloc (by rw [World.size_alloc]; omega) _).alloc (by rw [World.size_alloc, World.size_alloc]; omega) _
  have BT := ((Blk.new w (treeC l.length (some ⟨g, off, none⟩) ca gk am cm gz) 52).alloc (.cells #[.int .i64 0, .int .i64 0] 57)).alloc (.cells (ndI k kc n m t) 46)
  have BR := (Blk.new (w.alloc (.cells (treeC l.length (some ⟨g, off, none⟩) ca gk am cm gz) 52)) #[.int .i64 0, .int .i64 0] 57).alloc (.cells (ndI k kc n m t) 46)
  have BX := Blk.new ((w.alloc (.cells (treeC l.length (some ⟨g, off, none⟩) ca gk am cm gz) 52)).alloc (.cells #[.int .i64 0, .int .i64 0] 57)) (ndI k kc n m t) 46
  rw [World.size_alloc] at BR BX
  rw [World.size_alloc] at BX
  have hii : (i : Int) < (l.length : Int) := by omega
  have HB := Lib.hid hb1
  have HBR := Lib.hid BR
  have HBT := Lib.hid BT
  have hsi : (Tryd.prog.info? 57).map (·.size) = some 2 := by kernel_rfl
  have HKL := Lib.hid hkl
  clear hb1 BR BT hRES hkl hkl2
  go_enter Tryd.func41, Tryd.ntmps41
  go_upto_region 2 with fail
  clear d0 d1 d2 d3 d4 d5 d6 d7
  generalize ((w.alloc (.cells (treeC l.length (some ⟨g, off, none⟩) ca gk am cm gz) 52)).alloc (.cells #[.int .i64 0, .int .i64 0] 57)).alloc (.cells (ndI k kc n m t) 46) = w1 at *
  have x0 := BX.cell 0; have x1 := BX.cell 1
  simp only [List.getElem?_toArray, List.getElem?_cons_zero, List.getElem?_cons_succ] at x0 x1
  clear BX
  by_cases h2 : k = 2
  · subst h2
    have HE := Lib.hid (show Ending.returned (.tuple #[.agg #[.int .i64 1, .int .i64 1], .int .i64 1]) = RES from by rw [← HRES.out]; rfl)
    clear HRES
    go_wp2_with ((with_reducible refine wpList_store_st (o := ⟨none, .store 57 _ _, _, _, _, _⟩) rfl 57 _ _ rfl (w.heap.size + 1) rfl rfl (run_storeAt_row _ (w.heap.size + 1) 57 57 #[.int .i64 0, .int .i64 0] #[.int .i64 1, .int .i64 1] ?_ ?_ ?_ ?_) ?_); exact HBR.out; exact hsi; rfl; simp [Value.oneCell'])
    exact bodyPost_ret (results_cell1 rfl _ _ (w.heap.size + 1) 57 _ (0, 0) _ rfl (Blk.setRow HBR.out) Tryd.underlying57 rfl (by kernel_rfl)) rfl ⟨by refine Eq.trans ?_ HE.out; rfl, below_row HB.out (by omega) _⟩
  have e2 : (k == 2) = false := by rw [beq_eq_false_iff_ne]; exact h2
  by_cases h56 : k = 5 ∨ k = 6
  · have hkc := hk56.out h56
    have hkcv : kc = (KL : Int) := HKL.out.symm
    have xs : IntKind.i64.wrap (kc - 1) = kc - 1 := IntWalk.i64_in _ (by omega)
    have hpf : Ending.returned (.tuple #[.agg #[.int .i64 (kc - 1), .int .i64 0], .int .i64 1]) = RES := by
      rw [← HRES.out]
      have o1 : (owA ⟨k, kc, n, m, t⟩ nl : Int) = kc - 1 := by unfold owA; rw [if_neg h2, if_pos h56]; show ((kc - 1).toNat : Int) = _; omega
      have o2 : owL ⟨k, kc, n, m, t⟩ = 0 := by unfold owL; rw [if_neg h2]
      have o3 : owO ⟨k, kc, n, m, t⟩ nl = 1 := by unfold owO; rw [if_neg (by show ¬ k = 4; omega)]
      rw [o1, o2, o3]
      rfl
    have HE := Lib.hid hpf
    have e5 : k = 6 → (k == 5) = false := fun h => by subst h; rfl
    clear hpf HRES hkcv
    rcases h56 with h5 | h6
    · subst h5
      go_wp2_with ((with_reducible refine wpList_store_st (o := ⟨none, .store 57 _ _, _, _, _, _⟩) rfl 57 _ _ rfl (w.heap.size + 1) rfl rfl (run_storeAt_row _ (w.heap.size + 1) 57 57 #[.int .i64 0, .int .i64 0] #[.int .i64 (kc - 1), .int .i64 0] ?_ ?_ ?_ ?_) ?_); exact HBR.out; exact hsi; rfl; simp [Value.oneCell'])
      exact bodyPost_ret (results_cell1 rfl _ _ (w.heap.size + 1) 57 _ (0, 0) _ rfl (Blk.setRow HBR.out) Tryd.underlying57 rfl (by kernel_rfl)) rfl ⟨by refine Eq.trans ?_ HE.out; rfl, below_row HB.out (by omega) _⟩
    · subst h6
      go_wp2_with ((with_reducible refine wpList_store_st (o := ⟨none, .store 57 _ _, _, _, _, _⟩) rfl 57 _ _ rfl (w.heap.size + 1) rfl rfl (run_storeAt_row _ (w.heap.size + 1) 57 57 #[.int .i64 0, .int .i64 0] #[.int .i64 (kc - 1), .int .i64 0] ?_ ?_ ?_ ?_) ?_); exact HBR.out; exact hsi; rfl; simp [Value.oneCell'])
      exact bodyPost_ret (results_cell1 rfl _ _ (w.heap.size + 1) 57 _ (0, 0) _ rfl (Blk.setRow HBR.out) Tryd.underlying57 rfl (by kernel_rfl)) rfl ⟨by refine Eq.trans ?_ HE.out; rfl, below_row HB.out (by omega) _⟩
  have e5 : (k == 5) = false := by rw [beq_eq_false_iff_ne]; exact fun h => h56 (.inl h)
  have e6 : (k == 6) = false := by rw [beq_eq_false_iff_ne]; exact fun h => h56 (.inr h)
  by_cases h4 : k = 4
  · subst h4
    have hcs := HCP.out rfl
    obtain ⟨hs, hlk, hst, _⟩ := cSLT_le ⟨4, kc, n, m, t⟩ nl (HRN.out rfl)
    have hpf : Ending.returned (.tuple #[.agg #[.int .i64 ((arN (cS ⟨4, kc, n, m, t⟩ nl) (cL ⟨4, kc, n, m, t⟩ nl) (cT ⟨4, kc, n, m, t⟩) : Nat) : Int), .int .i64 0], .int .i64 ((cS ⟨4, kc, n, m, t⟩ nl + cL ⟨4, kc, n, m, t⟩ nl + cT ⟨4, kc, n, m, t⟩ : Nat) : Int)]) = RES := by
      rw [← HRES.out]
      rfl
    generalize cS ⟨4, kc, n, m, t⟩ nl = s at *
    generalize cL ⟨4, kc, n, m, t⟩ nl = lk at *
    generalize cT ⟨4, kc, n, m, t⟩ = st at *
    have HE := Lib.hid hpf
    have HCS := Lib.hid hcs
    have HAR := Lib.hid (fun W => around_calls s lk st (by omega) (by omega) (by omega) W)
    have HAL := Lib.hid (fun W => all_calls s lk st (by omega) (by omega) (by omega) W)
    clear hpf hcs HCP HRES HRN
    have t0 := HBT.out.cell 0; have t1 := HBT.out.cell 1; have t2 := HBT.out.cell 2; have t3 := HBT.out.cell 3
    simp only [List.getElem?_toArray, List.getElem?_cons_zero, List.getElem?_cons_succ] at t0 t1 t2 t3
    go_wp2_with fail
    refine (HCS.out w1 (HTR.out.below HB.out)).mono ?_
    rintro e w2 ⟨rfl, hb⟩
    have BR2 := HBR.out.below hb HBR.out.lt
    have HB2 := Lib.hid (HB.out.trans (hb.mono HB.out.size))
    have BC := Blk.new w2 #[.int .i64 s, .int .i64 lk, .int .i64 st] 88
    have BR3 := BR2.alloc (.cells #[.int .i64 s, .int .i64 lk, .int .i64 st] 88)
    have HB3 := HB2.out.alloc HB2.out.size (.cells #[.int .i64 s, .int .i64 lk, .int .i64 st] 88)
    have HX2 : Hid (w.heap.size + 1 < w2.heap.size) := Lib.hid BR2.lt
    have HX3 := Lib.hid (And.intro (And.intro BC BR3) HB3)
    clear hb HCS HB HBR HBT t0 t1 t2 t3 x0 x1 BC BR2 BR3 HB2 HB3
    go_upto_region 10 with fail
    have h0s := HX3.out
    generalize w2.alloc (.cells #[.int .i64 s, .int .i64 lk, .int .i64 st] 88) = w3 at *
    obtain ⟨C, hC⟩ : ∃ C, C = w2.heap.size := ⟨_, rfl⟩
    rw [← hC] at h0s ⊢
    have hCR : C ≠ w.heap.size + 1 := by have := h0s.1.2.lt; have := HX2.out; omega
    clear hC HX3
    have h0d : (fun W : World => (Blk W C #[.int .i64 s, .int .i64 lk, .int .i64 st] 88 ∧ Blk W (w.heap.size + 1) #[.int .i64 0, .int .i64 0] 57) ∧ Below w.heap.size w W) w3.drew := ⟨⟨h0s.1.1.drew, h0s.1.2.drew⟩, h0s.2.drew⟩
    clear h0s
    refine region_stepsL (m := 5) (S0 := fun W : World => (Blk W C #[.int .i64 s, .int .i64 lk, .int .i64 st] 88 ∧ Blk W (w.heap.size + 1) #[.int .i64 0, .int .i64 0] 57) ∧ Below w.heap.size w W) (S1 := fun W : World => (Blk W C #[.int .i64 s, .int .i64 lk, .int .i64 st] 88 ∧ Blk W (w.heap.size + 1) #[.int .i64 ((arN s lk st : Nat) : Int), .int .i64 0] 57) ∧ Below w.heap.size w W) (by kernel_rfl) (by kernel_rfl) h0d ?_
    clear h0d
    simp only [List.size_toArray, List.length_cons, List.length_nil, Nat.reduceAdd, Array.replicate_succ, Array.replicate_zero, List.push_toArray, List.nil_append, List.cons_append]
    refine AnyL.both (m := 5) (i := 0) (d := some 30) (v := .agg #[.int .i64 s, .int .i64 lk, .int .i64 st]) rfl rfl (by kernel_rfl) (by kernel_rfl) (by kernel_rfl) (by kernel_rfl) (StepsIf.yield (by kernel_rfl) (fun w' hS => by have n0 := hS.1.1.cell 0; have n1 := hS.1.1.cell 1; have n2 := hS.1.1.cell 2; simp only [List.getElem?_toArray, List.getElem?_cons_zero, List.getElem?_cons_succ] at n0 n1 n2; clear hS; go_simp)) (StepsIf.yield (by kernel_rfl) (fun w' hS => by have n0 := hS.1.1.cell 0; have n1 := hS.1.1.cell 1; have n2 := hS.1.1.cell 2; simp only [List.getElem?_toArray, List.getElem?_cons_zero, List.getElem?_cons_succ] at n0 n1 n2; clear hS; go_simp)) ?_
    intro a' ha'
    simp only [Act.put, List.setIfInBounds_toArray, List.set_cons_zero, List.set_cons_succ] at ha'
    subst ha'
    refine AnyL.both (m := 5) (i := 1) (d := some 31) (v := .int .i64 ((arN s lk st : Nat) : Int)) rfl rfl (by kernel_rfl) (by kernel_rfl) (by kernel_rfl) (by kernel_rfl) (StepsIf.call (by kernel_rfl) (fun w' hS => by clear hS; go_simp) (fun w' hS => ((HAR.out w').mono fun e w2 ⟨h1, h2⟩ => ⟨h1, ⟨hS.1.1.below h2 hS.1.1.lt, hS.1.2.below h2 hS.1.2.lt⟩, hS.2.trans (h2.mono hS.2.size)⟩))) (StepsIf.call (by kernel_rfl) (fun w' hS => by clear hS; go_simp) (fun w' hS => ((HAR.out w').mono fun e w2 ⟨h1, h2⟩ => ⟨h1, ⟨hS.1.1.below h2 hS.1.1.lt, hS.1.2.below h2 hS.1.2.lt⟩, hS.2.trans (h2.mono hS.2.size)⟩))) ?_
    intro a' ha'
    simp only [Act.put, List.setIfInBounds_toArray, List.set_cons_zero, List.set_cons_succ] at ha'
    subst ha'
    refine AnyL.next (m := 5) (i := 2) (d := some 32) (v := .agg #[.int .i64 ((arN s lk st : Nat) : Int), .int .i64 0]) rfl rfl (by kernel_rfl) (by kernel_rfl) (by kernel_rfl) (by kernel_rfl) (StepsIf.yield (by kernel_rfl) (fun w' hS => by clear hS; go_simp)) ?_
    intro a' ha'
    simp only [Act.put, List.setIfInBounds_toArray, List.set_cons_zero, List.set_cons_succ] at ha'
    subst ha'
    refine AnyL.both (m := 5) (i := 3) (d := some 33) (v := .agg #[.int .i64 s, .int .i64 lk, .int .i64 st]) rfl rfl (by kernel_rfl) (by kernel_rfl) (by kernel_rfl) (by kernel_rfl) (StepsIf.yield (by kernel_rfl) (fun w' hS => by have n0 := hS.1.1.cell 0; have n1 := hS.1.1.cell 1; have n2 := hS.1.1.cell 2; simp only [List.getElem?_toArray, List.getElem?_cons_zero, List.getElem?_cons_succ] at n0 n1 n2; clear hS; go_simp)) (StepsIf.yield (by kernel_rfl) (fun w' hS => by have n0 := hS.1.1.cell 0; have n1 := hS.1.1.cell 1; have n2 := hS.1.1.cell 2; simp only [List.getElem?_toArray, List.getElem?_cons_zero, List.getElem?_cons_succ] at n0 n1 n2; clear hS; go_simp)) ?_
    intro a' ha'
    simp only [Act.put, List.setIfInBounds_toArray, List.set_cons_zero, List.set_cons_succ] at ha'
    subst ha'
    refine AnyL.next (m := 5) (i := 4) (d := some 34) (v := .int .i64 ((s + lk + st : Nat) : Int)) rfl rfl (by kernel_rfl) (by kernel_rfl) (by kernel_rfl) (by kernel_rfl) (StepsIf.call (by kernel_rfl) (fun w' hS => by clear hS; go_simp) (fun w' hS => ((HAL.out w').mono fun e w2 ⟨h1, h2⟩ => ⟨h1, ⟨hS.1.1.below h2 hS.1.1.lt, hS.1.2.below h2 hS.1.2.lt⟩, hS.2.trans (h2.mono hS.2.size)⟩))) ?_
    intro a' ha'
    simp only [Act.put, List.setIfInBounds_toArray, List.set_cons_zero, List.set_cons_succ] at ha'
    subst ha'
    refine AnyL.store (m := 5) (d := none) (v := undef) rfl rfl (by kernel_rfl) (by kernel_rfl) (by kernel_rfl) ?hy ?_
    case hy =>
      intro w' hS K Q hK
      refine wp_store_row 57 _ _ rfl (w.heap.size + 1) rfl rfl (run_storeAt_row _ (w.heap.size + 1) 57 57 #[.int .i64 0, .int .i64 0] #[.int .i64 ((arN s lk st : Nat) : Int), .int .i64 0] hS.1.2 hsi rfl (by simp [Value.oneCell'])) ?_
      exact hK _ ⟨⟨(setRow_other w' (w.heap.size + 1) C _ hCR).trans hS.1.1, Blk.setRow hS.1.2⟩, below_row hS.2 (by omega) _⟩
    intro a' ha'
    simp only [Act.put] at ha'
    subst ha'
    refine AnyL.after (m := 5) (i := 6) (d := some 5) (v := .int .i64 ((s + lk + st : Nat) : Int)) rfl rfl (by kernel_rfl) (by kernel_rfl) (by kernel_rfl) (by kernel_rfl) (StepsIf.yield (by kernel_rfl) (fun w' hS => by clear hS; go_simp)) ?_
    intro a' ha'
    simp only [Act.put, List.setIfInBounds_toArray, List.set_cons_zero, List.set_cons_succ] at ha'
    subst ha'
    refine AnyL.done (by kernel_rfl) (by kernel_rfl) (fun w' hS => ?_) _
    have HRR := Lib.hid hS.1.2
    have HBB := Lib.hid hS.2
    clear hS HAR HAL
    go_wp2_with fail
    exact bodyPost_ret (results_cell1 rfl _ _ (w.heap.size + 1) 57 _ (0, 0) _ rfl HRR.out Tryd.underlying57 rfl (by kernel_rfl)) rfl ⟨by refine Eq.trans ?_ HE.out; rfl, HBB.out⟩
  have e4 : (k == 4) = false := by rw [beq_eq_false_iff_ne]; exact h4
  have HE := Lib.hid (show Ending.returned (.tuple #[.agg #[.int .i64 1, .int .i64 0], .int .i64 1]) = RES from by rw [← HRES.out]; unfold owA owL owO; rw [if_neg h2, if_neg h56, if_neg h4, if_neg h2, if_neg h4]; rfl)
  clear HRES
  go_wp2_with ((with_reducible refine wpList_store_st (o := ⟨none, .store 57 _ _, _, _, _, _⟩) rfl 57 _ _ rfl (w.heap.size + 1) rfl rfl (run_storeAt_row _ (w.heap.size + 1) 57 57 #[.int .i64 0, .int .i64 0] #[.int .i64 1, .int .i64 0] ?_ ?_ ?_ ?_) ?_); exact HBR.out; exact hsi; rfl; simp [Value.oneCell'])
  exact bodyPost_ret (results_cell1 rfl _ _ (w.heap.size + 1) 57 _ (0, 0) _ rfl (Blk.setRow HBR.out) Tryd.underlying57 rfl (by kernel_rfl)) rfl ⟨by refine Eq.trans ?_ HE.out; rfl, below_row HB.out (by omega) _⟩
end Go.Proofs.YtpncomjpmilbkaaDoor

/- The developers' lower: how great a tree's term is. Stage 11. -/
namespace Go.Proofs.YtpncomjpmilbkaaDoor
open Go.RowKit BS

theorem info_sz : (Tryd.prog.info? 57).map (fun i => (i.zero, i.size, i.bytes)) = some (some (.agg #[.int .i64 0, .int .i64 0]), 2, 16) := by kernel_rfl
def szZ (n : Nat) : Array Value := madeCells #[.int .i64 0, .int .i64 0] (n * 2)
theorem szZ_get (n k : Nat) (h : k < n * 2) : (szZ n)[k]? = some (.int .i64 0) := by
  unfold szZ madeCells
  rw [Array.getElem?_map, Array.getElem?_range, if_pos h]
  have h2 : k % 2 < 2 := Nat.mod_lt _ (by decide)
  show some ((#[Value.int .i64 0, .int .i64 0] : Array Value)[k % 2]!) = _
  generalize k % 2 = r at *
  obtain rfl | rfl : r = 0 ∨ r = 1 := by omega
  · rfl
  · rfl
theorem szZ_size (n : Nat) : (szZ n).size = n * 2 := by simp [szZ, madeCells]
theorem makeSz (n : Nat) (hn : n ≤ 1000) (W : World) : (Instr.makeSlice 79 (.int .i64 (n : Int)) (.int .i64 (n : Int))).run Tryd.prog W = .ok (.slice (some ⟨W.heap.size, 0, none⟩) n n) (W.alloc (.cells (szZ n) 57)) := by
  obtain ⟨i, hi, hzz⟩ := Option.map_eq_some_iff.1 info_sz
  simp only [Prod.mk.injEq] at hzz
  obtain ⟨hz, hs, hb⟩ := hzz
  have := run_make (P := Tryd.prog) W 79 57 i _ Tryd.underlying79 hi hz .i64 .i64 n n (by omega) (by omega) (by rw [hb]; omega) (by omega)
  rw [hs, Int.toNat_natCast] at this
  exact this
/-- The sizes of the first nodes' terms, in a row. -/
def SzR (l : List NdN) (n i B : Nat) (W : World) : Prop := ∃ vs, Blk W B vs 57 ∧ vs.size = n * 2 ∧ ∀ q, q < i → vs[q * 2]? = some (.int .i64 (mn (szV l q) : Nat)) ∧ vs[q * 2 + 1]? = some (.int .i64 (mn (lvV l q) : Nat))
theorem SzR.kpA {l : List NdN} {n i B : Nat} {W W' : World} {A : Nat → Prop} (h : SzR l n i B W) (k : KpA A W W') (hB : ¬ A B) : SzR l n i B W' := by
  obtain ⟨vs, h1, h2⟩ := h
  exact ⟨vs, h1.kpA k hB, h2⟩
theorem SzR.below {l : List NdN} {n i B : Nat} {W W' : World} (h : SzR l n i B W) (hb : Below W.heap.size W W') : SzR l n i B W' := by
  obtain ⟨vs, h1, h2⟩ := h
  exact ⟨vs, h1.below hb h1.lt, h2⟩
theorem SzR.lt {l : List NdN} {n i B : Nat} {W : World} (h : SzR l n i B W) : B < W.heap.size := by
  obtain ⟨vs, h1, h2⟩ := h
  exact h1.lt
theorem SzR.other {l : List NdN} {n i B : Nat} {W : World} (h : SzR l n i B W) {C : Nat} (hC : B ≠ C) (o : Nat) (v : Value) : SzR l n i B (W.setCell ⟨C, o, none⟩ v) := by
  obtain ⟨vs, h1, h2⟩ := h
  exact ⟨vs, h1.other hC o v, h2⟩
theorem SzR.there {l : List NdN} {n i B : Nat} {W : World} (h : SzR l n i B W) (q : Nat) (hq : q < n) : ∃ u v, W.cell? ⟨B, q * 2, none⟩ = some u ∧ W.cell? ⟨B, q * 2 + 1, none⟩ = some v ∧ W.frozen? ⟨B, q * 2, none⟩ = false ∧ W.frozen? ⟨B, q * 2 + 1, none⟩ = false := by
  obtain ⟨vs, h1, h2, _⟩ := h
  exact ⟨vs[q * 2]'(by omega), vs[q * 2 + 1]'(by omega), by rw [h1.cell, Array.getElem?_eq_getElem (by omega)], by rw [h1.cell, Array.getElem?_eq_getElem (by omega)], h1.frozen _, h1.frozen _⟩
theorem SzR.get {l : List NdN} {n i B : Nat} {W : World} (h : SzR l n i B W) (q : Nat) (hq : q < i) : W.cell? ⟨B, q * 2, none⟩ = some (.int .i64 (mn (szV l q) : Nat)) ∧ W.cell? ⟨B, q * 2 + 1, none⟩ = some (.int .i64 (mn (lvV l q) : Nat)) := by
  obtain ⟨vs, h1, _, h3⟩ := h
  exact ⟨(h1.cell _).trans (h3 q hq).1, (h1.cell _).trans (h3 q hq).2⟩
theorem SzR.set {l : List NdN} {n i B : Nat} {W : World} (h : SzR l n i B W) (hi : i < n) : SzR l n (i + 1) B ((W.setCell ⟨B, i * 2, none⟩ (.int .i64 (mn (szV l i) : Nat))).setCell ⟨B, i * 2 + 1, none⟩ (.int .i64 (mn (lvV l i) : Nat))) := by
  obtain ⟨vs, h1, h2, h3⟩ := h
  refine ⟨_, (h1.set _ _).set _ _, by simp [h2], fun q hq => ?_⟩
  by_cases hqi : q = i
  · subst hqi
    constructor
    · rw [Array.getElem?_setIfInBounds_ne (by omega), Array.getElem?_setIfInBounds_self_of_lt (by omega)]
    · rw [Array.getElem?_setIfInBounds_self_of_lt (by simp; omega)]
  · rw [Array.getElem?_setIfInBounds_ne (by omega), Array.getElem?_setIfInBounds_ne (by omega), Array.getElem?_setIfInBounds_ne (by omega), Array.getElem?_setIfInBounds_ne (by omega)]
    exact h3 q (by omega)
theorem SzR.new (l : List NdN) (n : Nat) (W : World) : SzR l n 0 W.heap.size (W.alloc (.cells (szZ n) 57)) := ⟨szZ n, Blk.new W _ _, szZ_size n, fun q hq => absurd hq (Nat.not_lt_zero q)⟩
/-- What is told of a node and the first of its kids. -/
def acA (own o : Nat) (f : Nat → Nat) (K : List Int) (j : Nat) : Nat := mn (own + o * smN f (K.take j))
theorem ac_zero (own o : Nat) (f : Nat → Nat) (K : List Int) (h : own ≤ 1000000) : acA own o f K 0 = own := by
  unfold acA
  rw [List.take_zero, smN_nil, Nat.mul_zero, Nat.add_zero]
  unfold mn
  omega
theorem ac_step (own o : Nat) (f : Nat → Nat) (K : List Int) (j : Nat) (h : j < K.length) : mn (acA own o f K j + o * mn (f K[j].toNat)) = acA own o f K (j + 1) := by
  unfold acA
  rw [List.take_succ_eq_append_getElem h, smN_snoc, Nat.mul_add, ← Nat.add_assoc]
  generalize own + o * smN f (K.take j) = x
  generalize f K[j].toNat = y
  rcases Nat.eq_zero_or_pos o with h0 | h0
  · subst h0
    simp only [Nat.zero_mul, Nat.add_zero]
    unfold mn
    omega
  · have h1 := mn_mul o y h0
    unfold mn at h1 ⊢
    have h2 : o * min y 1000000 ≤ o * y := Nat.mul_le_mul_left o (Nat.min_le_left _ _)
    omega
theorem ac_le (own o : Nat) (f : Nat → Nat) (K : List Int) (j : Nat) : acA own o f K j ≤ 1000000 := mn_le _
theorem ac_all (own o : Nat) (f : Nat → Nat) (K : List Int) : acA own o f K K.length = mn (own + o * smN f K) := by
  unfold acA
  rw [List.take_of_length_le (Nat.le_refl _)]
theorem ow_le (l : List NdN) (hl : l.length ≤ 1000) (hr : rightR l = true) (i : Nat) (hi : i < l.length) (nl : Bool) : owA l[i] nl ≤ 1000 ∧ owL l[i] ≤ 1 ∧ owO l[i] nl ≤ 1000 := by
  have hk := kids_len l (right_formed l hr) i hi
  have hkb := kids_le l i
  refine ⟨?_, ?_, ?_⟩
  · unfold owA
    split
    · omega
    · split
      · omega
      · split
        · rename_i h4
          have hn : rightN l[i].n l[i].m = true := by
            rcases node_right l hr i hi with ⟨hk, _⟩ | ⟨hk, _⟩ | ⟨_, hk, _⟩ | ⟨b, _, hK, hb, hn⟩ | ⟨hk, _⟩
            · omega
            · omega
            · omega
            · exact hn
            · omega
          have := cSLT_le l[i] nl hn
          unfold arN
          split <;> omega
        · omega
  · unfold owL
    split <;> omega
  · unfold owO
    split
    · rename_i h4
      have hn : rightN l[i].n l[i].m = true := by
        rcases node_right l hr i hi with ⟨hk, _⟩ | ⟨hk, _⟩ | ⟨_, hk, _⟩ | ⟨b, _, hK, hb, hn⟩ | ⟨hk, _⟩
        · omega
        · omega
        · omega
        · exact hn
        · omega
      have := cSLT_le l[i] nl hn
      omega
    · omega
set_option maxRecDepth 100000 in
set_option maxHeartbeats 16000000 in
theorem lsize_calls (l : List NdN) (hl : l.length ≤ 1000) (hr : rightR l = true) (a : Option Addr) (ca gk : Nat) (am : Option Addr) (cm gz : Nat) (w : World) (h : TreeN l l.length l.length a gk am gz w) :
    Calls Tryd.prog 21 #[.agg (treeC l.length a ca gk am cm gz)] w fun e w' => e = .returned (.agg #[.int .i64 (mn (rootS l) : Nat), .int .i64 (mn (rootL l) : Nat)]) ∧ Below w.heap.size w w' := by
  have hf := right_formed l hr
  have hpos : 0 < l.length := formed_pos l hf
  obtain ⟨g, off, rfl, hg, _⟩ := h.nodes (by intro e; subst e; simp at hpos)
  have HT := Lib.hid h
  have hgk := h.kl
  have hmk := makeSz l.length hl
  have hsi : (Tryd.prog.info? 57).map (·.size) = some 2 := by kernel_rfl
  have hb1 : Below w.heap.size w (((w.alloc (.cells (treeC l.length (some ⟨g, off, none⟩) ca gk am cm gz) 52)).alloc (.cells #[.int .i64 0, .int .i64 0] 57)).alloc (.cells (szZ l.length) 57)) := (((Below.refl _ _).alloc (Nat.le_refl _) _).alloc (by rw [World.size_alloc]; omega) _).alloc (by rw [World.size_alloc, World.size_alloc]; omega) _
  have BT := ((Blk.new w (treeC l.length (some ⟨g, off, none⟩) ca gk am cm gz) 52).alloc (.cells #[.int .i64 0, .int .i64 0] 57)).alloc (.cells (szZ l.length) 57)
  have BR := (Blk.new (w.alloc (.cells (treeC l.length (some ⟨g, off, none⟩) ca gk am cm gz) 52)) #[.int .i64 0, .int .i64 0] 57).alloc (.cells (szZ l.length) 57)
  have BZ := SzR.new l l.length ((w.alloc (.cells (treeC l.length (some ⟨g, off, none⟩) ca gk am cm gz) 52)).alloc (.cells #[.int .i64 0, .int .i64 0] 57))
  rw [World.size_alloc] at BR
  rw [World.size_alloc, World.size_alloc] at BZ
  have HB := Lib.hid hb1
  have HBT := Lib.hid BT
  have HBR := Lib.hid BR
  have HBZ := Lib.hid BZ
  have HSH := Lib.hid (fun i hi W hW => share_calls l hl hr i hi (some ⟨g, off, none⟩) ca gk am cm gz W hW)
  have HOW := Lib.hid (ow_le l hl hr)
  have HKB := Lib.hid (kids_le l)
  have HKLT := Lib.hid (kid_lt l hf)
  have HSZ := Lib.hid (own_sz l hr)
  have HRT := Lib.hid (fun W => lroot_calls l.length hl (some ⟨g, off, none⟩) ca gk am cm gz W)
  clear hb1 BT BR BZ h
  go_enter Tryd.func21, Tryd.ntmps21
  go_upto_region 2 with fail
  clear hmk
  generalize ((w.alloc (.cells (treeC l.length (some ⟨g, off, none⟩) ca gk am cm gz) 52)).alloc (.cells #[.int .i64 0, .int .i64 0] 57)).alloc (.cells (szZ l.length) 57) = w1 at *
  have t0 := HBT.out.cell 0
  simp only [List.getElem?_toArray, List.getElem?_cons_zero] at t0
  go_wp2_with fail
  clear t0
  go_loopw [16] (fun vi wr => ∃ i : Nat, i ≤ l.length ∧ vi = .int .i64 i ∧ Below w.heap.size w wr ∧ Blk wr w.heap.size (treeC l.length (some ⟨g, off, none⟩) ca gk am cm gz) 52 ∧ Blk wr (w.heap.size + 1) #[.int .i64 0, .int .i64 0] 57 ∧ SzR l l.length i (w.heap.size + 1 + 1) wr) (fun vi _ => l.length - (intOf vi).toNat)
  case atStart => exact ⟨0, Nat.zero_le _, rfl, HB.out, HBT.out, HBR.out, HBZ.out⟩
  case round =>
    obtain ⟨i, hi, rfl, hb, hT, hR, hZ⟩ := hrel
    clear HB HBT HBR HBZ
    have t0 := hT.cell 0; have t1 := hT.cell 1; have t2 := hT.cell 2; have t3 := hT.cell 3
    simp only [List.getElem?_toArray, List.getElem?_cons_zero, List.getElem?_cons_succ] at t0 t1 t2 t3
    have HBL := Lib.hid hb
    have HTB := Lib.hid hT
    have HRB := Lib.hid hR
    have HZB := Lib.hid hZ
    clear hb hT hR hZ
    by_cases hlt : i < l.length
    · have hii : (i : Int) < (l.length : Int) := by omega
      have xi : IntKind.i64.wrap ((i : Int) + 1) = (i : Int) + 1 := IntWalk.i64_in _ (by omega)
      obtain ⟨ho1, ho2, ho3⟩ := HOW.out i hlt (nulV l ((kidsR l i).headD 0).toNat)
      have hsz := HSZ.out i hlt
      obtain ⟨kb, kcap, hq1, hq2⟩ := HT.out.kids i hlt
      have hkb := HKB.out i
      have hklt := HKLT.out i hlt
      have hsh := HSH.out i hlt wr (HT.out.below HBL.out)
      generalize owA l[i] (nulV l ((kidsR l i).headD 0).toNat) = ow at *
      generalize owL l[i] = lo at *
      generalize owO l[i] (nulV l ((kidsR l i).headD 0).toNat) = of at *
      generalize kidsR l i = K at *
      have HSHI := Lib.hid hsh
      have HSZI := Lib.hid hsz
      have HKLI := Lib.hid hklt
      have HQ2 := Lib.hid hq2
      have q1 := (HBL.out.cell (p := ⟨gk, i, none⟩) hgk).trans hq1
      have hq1c := hq1
      clear hsh hsz hklt hq1 hq2
      go_wp2_with fail
      refine HSHI.out.mono ?_
      rintro e w2 ⟨rfl, hb2⟩
      have hw2 := hb2.size
      have hTl := HTB.out.lt
      have hRl := HRB.out.lt
      have hZl := HZB.out.lt
      have BT2 := HTB.out.below hb2 hTl
      have BR2 := HRB.out.below hb2 hRl
      have BZ2 := HZB.out.below hb2
      have hbl2 := HBL.out.trans (hb2.mono HBL.out.size)
      have ha3 : Below w2.heap.size w2 (w2.alloc (.cells #[.int .i64 ow, .int .i64 lo] 57)) := (Below.refl _ _).alloc (Nat.le_refl _) _
      have BT3 := BT2.below ha3 BT2.lt
      have BR3 := BR2.below ha3 BR2.lt
      have BZ3 := BZ2.below ha3
      have BC3 := Blk.new w2 #[.int .i64 ow, .int .i64 lo] 57
      have hbl3 := hbl2.trans (ha3.mono hbl2.size)
      have k1 := BT3.cell 1
      simp only [List.getElem?_toArray, List.getElem?_cons_zero, List.getElem?_cons_succ] at k1
      have k2 := (hbl3.cell (p := ⟨gk, i, none⟩) hgk).trans (hq1c)
      have HX3 := Lib.hid (And.intro hbl3 (And.intro BT3 (And.intro BR3 BZ3)))
      have HC3 := Lib.hid BC3
      have hbig : w.heap.size + 1 + 1 < w2.heap.size := by omega
      clear hb2 BT2 BR2 BZ2 hbl2 ha3 BT3 BR3 BZ3 BC3 hbl3 HTB HRB HZB HBL q1 t0 t1 t2 t3 HSHI hTl hRl hZl hw2
      go_upto_region 6 with fail
      generalize w2.alloc (.cells #[.int .i64 ow, .int .i64 lo] 57) = w3 at *
      obtain ⟨C, hC⟩ : ∃ C, C = w2.heap.size := ⟨_, rfl⟩
      rw [← hC] at HC3 hbig ⊢
      clear hC
      obtain ⟨KN, hKN⟩ : ∃ n, n = K.length := ⟨_, rfl⟩
      rw [← hKN] at k2 hkb
      have HKN := Lib.hid hKN
      clear hKN
      go_wp2_with fail
      clear k1 k2
      go_loopw [31] (fun vj wr => ∃ j : Nat, j ≤ KN ∧ vj = .int .i64 j ∧ Blk wr C #[.int .i64 (acA ow of (szV l) K j : Nat), .int .i64 (acA lo of (lvV l) K j : Nat)] 57 ∧ KpA (fun x => x = C) w3 wr) (fun vj _ => KN - (intOf vj).toNat)
      case atStart => exact ⟨0, Nat.zero_le _, rfl, by rw [ac_zero _ _ _ _ (by omega), ac_zero _ _ _ _ (by omega)]; exact HC3.out, KpA.refl _ _⟩
      case round =>
        obtain ⟨j, hj, rfl, hCb, hkp⟩ := hrel
        have hbw := HX3.out.1.trans (hkp.toBelow HX3.out.1.size (fun k hk => by subst hk; omega))
        have hZw := HX3.out.2.2.2.kpA hkp (by omega)
        have hTw := HX3.out.2.1.kpA hkp (by omega)
        have hRw := HX3.out.2.2.1.kpA hkp (by omega)
        by_cases hlj : j < KN
        · have hljK : j < K.length := by rw [← HKN.out]; exact hlj
          obtain ⟨kg, ko, rfl, hkg, hkc⟩ := HQ2.out (by intro e; rw [e] at hljK; simp at hljK)
          obtain ⟨hk1, hk2⟩ := HKLI.out K[j] (List.getElem_mem hljK)
          obtain ⟨kid, hkid⟩ : ∃ n : Nat, K[j] = (n : Int) := ⟨K[j].toNat, by omega⟩
          have r0 := (hbw.cell (p := ⟨kg, ko + j, none⟩) hkg).trans (hkc j hljK)
          have hs1 := ac_step ow of (szV l) K j hljK
          have hs2 := ac_step lo of (lvV l) K j hljK
          rw [hkid] at r0 hs1 hs2
          rw [Int.toNat_natCast] at hs1 hs2
          have hki : kid < i := by omega
          have HG := Lib.hid (hZw.get kid hki)
          have HRL := Lib.hid hZw.lt
          have hp1 := ac_le ow of (szV l) K j
          have hp2 := ac_le lo of (lvV l) K j
          have hskl := mn_le (szV l kid)
          have hlkl := mn_le (lvV l kid)
          have HNX := Lib.hid (show ∀ W, Blk W C #[.int .i64 (acA ow of (szV l) K (j + 1) : Nat), .int .i64 (acA lo of (lvV l) K (j + 1) : Nat)] 57 → Blk W C #[.int .i64 (acA ow of (szV l) K (j + 1) : Nat), .int .i64 (acA lo of (lvV l) K (j + 1) : Nat)] 57 from fun _ h => h)
          generalize mn (szV l kid) = sk at *
          generalize mn (lvV l kid) = lk at *
          have hw1 := fun W => szw_calls (acA ow of (szV l) K j) (acA lo of (lvV l) K j) (of * sk) (of * lk) (by omega) (by omega) (Nat.mul_le_mul ho3 hskl) (Nat.mul_le_mul ho3 hlkl) W
          have ht1 := fun W => times_calls of sk lk ho3 hskl hlkl W
          rw [hs1, hs2] at hw1
          generalize hP1 : acA ow of (szV l) K (j + 1) = P1 at *
          generalize hQ1 : acA lo of (lvV l) K (j + 1) = Q1 at *
          have HP1 := Lib.hid hP1
          have HQ1 := Lib.hid hQ1
          clear hP1 hQ1
          generalize acA ow of (szV l) K j = P at *
          generalize acA lo of (lvV l) K j = Q at *
          have HWI := Lib.hid hw1
          have HTI := Lib.hid ht1
          have HC := Lib.hid hCb
          have HKP := Lib.hid hkp
          have hjj : (j : Int) < (KN : Int) := by omega
          have hkl2 : (kid : Int) < (l.length : Int) := by omega
          have hkl3 : kid < l.length := by omega
          have xj : IntKind.i64.wrap ((j : Int) + 1) = (j : Int) + 1 := IntWalk.i64_in _ (by omega)
          clear hs1 hs2 hw1 ht1 hkc hk1 hk2 hkid hbw hZw hTw hRw hp1 hp2 hskl hlkl hCb hkp HNX
          go_upto_region 9 with fail
          have h0d : (fun W : World => Below wr.heap.size wr W) wr.drew := (Below.refl _ _).drew
          clear r0
          refine region_stepsM (S := fun W : World => Below wr.heap.size wr W) (m := 8) rfl (by kernel_rfl) h0d ?_
          clear h0d
          simp only [List.size_toArray, List.length_cons, List.length_nil, Nat.reduceAdd, Array.replicate_succ, Array.replicate_zero, List.push_toArray, List.nil_append, List.cons_append]
          refine AnyM.next (m := 8) (i := 0) (d := some 35) (v := .agg #[.int .i64 (P : Nat), .int .i64 (Q : Nat)]) rfl rfl (by kernel_rfl) (by kernel_rfl) (by kernel_rfl) (by kernel_rfl) (StepsIf.yield (by kernel_rfl) (fun w' hS => by have n0 := (hS.cell (p := ⟨C, 0, none⟩) HC.out.lt).trans (HC.out.cell 0); have n1 := (hS.cell (p := ⟨C, 1, none⟩) HC.out.lt).trans (HC.out.cell 1); simp only [List.getElem?_toArray, List.getElem?_cons_zero, List.getElem?_cons_succ] at n0 n1; clear hS; go_simp)) ?_
          intro a' ha'
          simp only [Act.put, List.setIfInBounds_toArray, List.set_cons_zero, List.set_cons_succ] at ha'
          subst ha'
          refine AnyM.next (m := 8) (i := 1) (d := some 36) (v := .slice (some ⟨w.heap.size + 1 + 1, 0, none⟩) l.length l.length) rfl rfl (by kernel_rfl) (by kernel_rfl) (by kernel_rfl) (by kernel_rfl) (StepsIf.yield (by kernel_rfl) (fun w' hS => by clear hS; go_simp)) ?_
          intro a' ha'
          simp only [Act.put, List.setIfInBounds_toArray, List.set_cons_zero, List.set_cons_succ] at ha'
          subst ha'
          refine AnyM.next (m := 8) (i := 2) (d := some 37) (v := .int .i64 (kid : Nat)) rfl rfl (by kernel_rfl) (by kernel_rfl) (by kernel_rfl) (by kernel_rfl) (StepsIf.yield (by kernel_rfl) (fun w' hS => by clear hS; go_simp)) ?_
          intro a' ha'
          simp only [Act.put, List.setIfInBounds_toArray, List.set_cons_zero, List.set_cons_succ] at ha'
          subst ha'
          refine AnyM.next (m := 8) (i := 3) (d := some 38) (v := .pointer (some ⟨w.heap.size + 1 + 1, kid * 2, none⟩)) rfl rfl (by kernel_rfl) (by kernel_rfl) (by kernel_rfl) (by kernel_rfl) (StepsIf.yield (by kernel_rfl) (fun w' hS => by clear hS; go_simp)) ?_
          intro a' ha'
          simp only [Act.put, List.setIfInBounds_toArray, List.set_cons_zero, List.set_cons_succ] at ha'
          subst ha'
          refine AnyM.next (m := 8) (i := 4) (d := some 39) (v := .agg #[.int .i64 (sk : Nat), .int .i64 (lk : Nat)]) rfl rfl (by kernel_rfl) (by kernel_rfl) (by kernel_rfl) (by kernel_rfl) (StepsIf.yield (by kernel_rfl) (fun w' hS => by have n0 := (hS.cell (p := ⟨w.heap.size + 1 + 1, kid * 2, none⟩) HRL.out).trans HG.out.1; have n1 := (hS.cell (p := ⟨w.heap.size + 1 + 1, kid * 2 + 1, none⟩) HRL.out).trans HG.out.2; clear hS; go_simp)) ?_
          intro a' ha'
          simp only [Act.put, List.setIfInBounds_toArray, List.set_cons_zero, List.set_cons_succ] at ha'
          subst ha'
          refine AnyM.next (m := 8) (i := 5) (d := some 40) (v := .int .i64 (of : Nat)) rfl rfl (by kernel_rfl) (by kernel_rfl) (by kernel_rfl) (by kernel_rfl) (StepsIf.yield (by kernel_rfl) (fun w' hS => by clear hS; go_simp)) ?_
          intro a' ha'
          simp only [Act.put, List.setIfInBounds_toArray, List.set_cons_zero, List.set_cons_succ] at ha'
          subst ha'
          refine AnyM.next (m := 8) (i := 6) (d := some 41) (v := .agg #[.int .i64 ((of * sk : Nat) : Int), .int .i64 ((of * lk : Nat) : Int)]) rfl rfl (by kernel_rfl) (by kernel_rfl) (by kernel_rfl) (by kernel_rfl) (StepsIf.call (by kernel_rfl) (fun w' hS => by clear hS; go_simp) (fun w' hS => ((HTI.out w').mono fun e w2 ⟨h1, h2⟩ => ⟨h1, hS.trans (h2.mono hS.size)⟩))) ?_
          intro a' ha'
          simp only [Act.put, List.setIfInBounds_toArray, List.set_cons_zero, List.set_cons_succ] at ha'
          subst ha'
          refine AnyM.next (m := 8) (i := 7) (d := some 42) (v := .agg #[.int .i64 (P1 : Nat), .int .i64 (Q1 : Nat)]) rfl rfl (by kernel_rfl) (by kernel_rfl) (by kernel_rfl) (by kernel_rfl) (StepsIf.call (by kernel_rfl) (fun w' hS => by clear hS; go_simp) (fun w' hS => ((HWI.out w').mono fun e w2 ⟨h1, h2⟩ => ⟨h1, hS.trans (h2.mono hS.size)⟩))) ?_
          intro a' ha'
          simp only [Act.put, List.setIfInBounds_toArray, List.set_cons_zero, List.set_cons_succ] at ha'
          subst ha'
          refine AnyM.last rfl (by kernel_rfl) (by kernel_rfl) (by kernel_rfl) (fun w6 hS K' hK' => ?_)
          have hC6 := HC.out.below hS HC.out.lt
          refine wp_store_row 57 _ _ rfl C rfl rfl (run_storeAt_row _ C 57 57 #[.int .i64 (P : Nat), .int .i64 (Q : Nat)] #[.int .i64 (P1 : Nat), .int .i64 (Q1 : Nat)] hC6 hsi rfl (by simp [Value.oneCell'])) ?_
          refine hK' _ _ ?_
          have HC7 := Lib.hid (Blk.setRow hC6 (cs := #[.int .i64 (P1 : Nat), .int .i64 (Q1 : Nat)]))
          have HKP7 := Lib.hid ((HKP.out.below hS).row (g := C) (.inl rfl) #[.int .i64 (P1 : Nat), .int .i64 (Q1 : Nat)])
          clear hK' K' hS hC6 HWI HTI HC HKP
          generalize w6.setRow C #[.int .i64 (P1 : Nat), .int .i64 (Q1 : Nat)] = w7 at *
          go_wp2_with fail
          go_roundw
          case rel => exact ⟨j + 1, by omega, by simp, by rw [HP1.out, HQ1.out]; exact HC7.out, HKP7.out⟩
          case measure => simp [intOf]; omega
        · obtain rfl : j = KN := by omega
          have e1 := ac_all ow of (szV l) K
          have e2 := ac_all lo of (lvV l) K
          rw [← HSZI.out.1, ← HKN.out] at e1
          rw [← HSZI.out.2, ← HKN.out] at e2
          rw [e1, e2] at hCb
          obtain ⟨u, v, z0, z1, f0, f1⟩ := hZw.there i hlt
          have n0 := hCb.cell 0; have n1 := hCb.cell 1
          simp only [List.getElem?_toArray, List.getElem?_cons_zero, List.getElem?_cons_succ] at n0 n1
          have HZ9 := Lib.hid (hZw.set hlt)
          have HT9 := Lib.hid ((hTw.other (show w.heap.size ≠ w.heap.size + 1 + 1 by omega) (i * 2) (.int .i64 (mn (szV l i) : Nat))).other (show w.heap.size ≠ w.heap.size + 1 + 1 by omega) (i * 2 + 1) (.int .i64 (mn (lvV l i) : Nat)))
          have HR9 := Lib.hid ((hRw.other (show w.heap.size + 1 ≠ w.heap.size + 1 + 1 by omega) (i * 2) (.int .i64 (mn (szV l i) : Nat))).other (show w.heap.size + 1 ≠ w.heap.size + 1 + 1 by omega) (i * 2 + 1) (.int .i64 (mn (lvV l i) : Nat)))
          have HB9 := Lib.hid (below_set (below_set hbw (show w.heap.size ≤ w.heap.size + 1 + 1 by omega) (i * 2) (.int .i64 (mn (szV l i) : Nat))) (show w.heap.size ≤ w.heap.size + 1 + 1 by omega) (i * 2 + 1) (.int .i64 (mn (lvV l i) : Nat)))
          generalize mn (szV l i) = sa at *
          generalize mn (lvV l i) = la at *
          clear hbw hZw hTw hRw hCb hkp HX3 HC3 e1 e2 HSZI HKLI HQ2 HSZ HSH HOW
          go_wp2_with fail
          go_roundw
          case rel => exact ⟨i + 1, by omega, by simp, HB9.out, HT9.out, HR9.out, HZ9.out⟩
          case measure => simp [intOf]; omega
    · obtain rfl : i = l.length := by omega
      have hroot := HZB.out.get (l.length - 1) (by omega)
      have hl1 : ((l.length : Int) - 1) = ((l.length - 1 : Nat) : Int) := by omega
      have HRES := Lib.hid (show Ending.returned (.agg #[.int .i64 (mn (szV l (l.length - 1)) : Nat), .int .i64 (mn (lvV l (l.length - 1)) : Nat)]) = Ending.returned (.agg #[.int .i64 (mn (rootS l) : Nat), .int .i64 (mn (rootL l) : Nat)]) from rfl)
      obtain ⟨rt, hrt⟩ : ∃ n, n = l.length - 1 := ⟨_, rfl⟩
      rw [← hrt] at hroot hl1 HRES
      generalize mn (szV l rt) = sa at *
      generalize mn (lvV l rt) = la at *
      have hrl : rt < l.length := by omega
      have hrl2 : (rt : Int) < (l.length : Int) := by omega
      have HROOT := Lib.hid hroot
      have HL1 := Lib.hid hl1
      clear hroot hl1 hrt HSZ HSH HOW
      go_wp2_with fail
      refine (HRT.out wr).mono ?_
      rintro e w2 ⟨rfl, hb2⟩
      rw [HL1.out]
      have y0 := (hb2.cell (p := ⟨w.heap.size + 1 + 1, rt * 2, none⟩) HZB.out.lt).trans HROOT.out.1
      have y1 := (hb2.cell (p := ⟨w.heap.size + 1 + 1, rt * 2 + 1, none⟩) HZB.out.lt).trans HROOT.out.2
      have HRR := Lib.hid (HRB.out.below hb2 HRB.out.lt)
      have HBB := Lib.hid (HBL.out.trans (hb2.mono HBL.out.size))
      clear hb2 HZB HTB HRB HBL HROOT t0 t1 t2 t3
      go_wp2_with ((with_reducible refine wpList_store_st (o := ⟨none, .store 57 _ _, _, _, _, _⟩) rfl 57 _ _ rfl (w.heap.size + 1) rfl rfl (run_storeAt_row _ (w.heap.size + 1) 57 57 #[.int .i64 0, .int .i64 0] #[.int .i64 (sa : Nat), .int .i64 (la : Nat)] ?_ ?_ ?_ ?_) ?_); exact HRR.out; exact hsi; rfl; simp [Value.oneCell'])
      exact bodyPost_ret (results_cell_row rfl _ _ (w.heap.size + 1) 57 _ (0, 0) _ rfl (Blk.setRow HRR.out) Tryd.underlying57 rfl (by kernel_rfl)) rfl ⟨HRES.out, below_row HBB.out (by omega) _⟩
end Go.Proofs.YtpncomjpmilbkaaDoor

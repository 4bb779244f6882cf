/- Texts put together: Tsj Tsf. -/
import Derived.Test.YtooolhekihijlaaQW
import Derived.Test.YtooolhekihijlaaQX
import Derived.Test.YtooolhekihijlaaQV
import Derived.Test.YtooolhekihijlaaQU
import Derived.Test.YtooolhekihijlaaQL
import Derived.BigQuiet
import Derived.Lib.SlBytesConst
/- The list that frames tell: the document's Of. Stage 14. -/
namespace Go.Proofs.Ytooolhekihijlaa
open Go.RowKit BS

/-- What was made so far, in two rows of the call's own. -/
structure OwM (B : Nat) (out : List EnN) (op : List Nat) (av : Option Addr) (cv : Nat) (au : Option Addr) (cu : Nat) (W : World) : Prop where
  oe : OwE B (.slice av out.length cv) out W
  oi : OwI B (.slice au op.length cu) (opI op) W
  ap : ∀ g, (Value.slice av out.length cv).ownBlock = some g → (Value.slice au op.length cu).ownBlock ≠ some g
section
variable {B : Nat} {out : List EnN} {op : List Nat} {av au : Option Addr} {cv cu : Nat} {W W' : World}
theorem OwM.below (h : OwM B out op av cv au cu W) (hb : Below W.heap.size W W') : OwM B out op av cv au cu W' := ⟨h.oe.below hb, h.oi.below hb, h.ap⟩
theorem OwM.pushE (h : OwM B out op av cv au cu W) (hB : B ≤ W.heap.size) (hl : out.length ≤ 1000000) (d n f e : Int) (ty : TypeId) :
    ∃ g cap W2, (Builtin.append_ #[22, 22] ty #[.slice av out.length cv, .slice (some ⟨W.heap.size, 0, none⟩) 1 1]).run Try.prog (W.alloc (.cells (enI d n f e) 44)) = .ok (.slice (some ⟨g, 0, none⟩) (out.length + 1) cap) W2 ∧
      OwM B (out ++ [⟨d, n, f, e⟩]) op (some ⟨g, 0, none⟩) cap au cu W2 ∧ Below B W W2 := by
  obtain ⟨g, cap, W2, hr, ho2, hgr, hat, hgl⟩ := push_ent h.oe hB hl d n f e ty
  have hk : KpA (fun k => (Value.slice av out.length cv).ownBlock = some k) W W2 := ((KpA.refl _ W).alloc _).grown hgr (fun k hk => .inl hk)
  have hlen : (out ++ [(⟨d, n, f, e⟩ : EnN)]).length = out.length + 1 := by simp
  refine ⟨g, cap, W2, hr, ⟨by rw [hlen]; exact ho2, h.oi.keep (fun k hk' => hk.block k (h.oi.lt hk').2 (fun hv => h.ap k hv hk')), fun k hk' hu => ?_⟩, hk.toBelow hB (fun k hk' => (h.oe.lt hk').1)⟩
  cases hk'
  rcases hat with hat | hat
  · exact h.ap g hat hu
  · have h9 : g < W.heap.size := (h.oi.lt hu).2
    omega
theorem OwM.pushI (h : OwM B out op av cv au cu W) (hB : B ≤ W.heap.size) (hl : op.length ≤ 1000000) (q : Nat) (ty : TypeId) :
    ∃ g cap W2, (Builtin.append_ #[35, 35] ty #[.slice au op.length cu, .slice (some ⟨W.heap.size, 0, none⟩) 1 1]).run Try.prog (W.alloc (.cells #[.int .i64 q] 3)) = .ok (.slice (some ⟨g, 0, none⟩) (op.length + 1) cap) W2 ∧
      OwM B out (q :: op) av cv (some ⟨g, 0, none⟩) cap W2 ∧ Below B W W2 := by
  obtain ⟨g, cap, W2, hr, ho2, hgr, hat, hgl⟩ := push_int h.oi hB (by rw [opI_len]; omega) q ty
  rw [opI_len] at hr ho2
  have hk : KpA (fun k => (Value.slice au op.length cu).ownBlock = some k) W W2 := ((KpA.refl _ W).alloc _).grown hgr (fun k hk => .inl hk)
  refine ⟨g, cap, W2, hr, ⟨h.oe.keep (fun k hk' => hk.block k (h.oe.lt hk').2 (fun hu => h.ap k hk' hu)), by rw [opI_push]; exact ho2, fun k hk' hu => ?_⟩, hk.toBelow hB (fun k hk' => (h.oi.lt hk').1)⟩
  cases hu
  rcases hat with hat | hat
  · exact h.ap g hk' hat
  · have h9 : g < W.heap.size := (h.oe.lt hk').2
    omega
theorem OwM.pop {q : Nat} {r : List Nat} (h : OwM B out (q :: r) av cv au cu W) (_hB : B ≤ W.heap.size) (hq : q < out.length) (f : Int) :
    ∃ gv gu, av = some ⟨gv, 0, none⟩ ∧ au = some ⟨gu, 0, none⟩ ∧ r.length + 1 ≤ cu ∧ W.cell? ⟨gu, r.length, none⟩ = some (.int .i64 (q : Nat)) ∧ W.cell? ⟨gv, q * 4 + 1, none⟩ = some (.int .i64 (atE out q).node) ∧
      W.cell? ⟨gv, q * 4 + 3, none⟩ = some (.int .i64 (atE out q).to) ∧ W.frozen? ⟨gv, q * 4 + 3, none⟩ = false ∧ gv ≠ gu ∧
      OwM B (out.set q ⟨(atE out q).depth, (atE out q).node, (atE out q).from_, f⟩) r av cv au cu (W.setCell ⟨gv, q * 4 + 3, none⟩ (.int .i64 f)) ∧ Below B W (W.setCell ⟨gv, q * 4 + 3, none⟩ (.int .i64 f)) := by
  have hlc : (q :: r).length = r.length + 1 := rfl
  obtain ⟨h2, h3, h4⟩ := h
  rw [hlc] at h3 h4
  obtain ⟨gv, cv', e1, hv1, hv2, hv3⟩ := h2.blk (by intro e; rw [e] at hq; simp at hq)
  cases e1
  rcases h3.2 with ⟨e2, _⟩ | ⟨gu, cu', cur, e2, hu1, hu2, hu3, _⟩
  · cases e2
  rw [opI_len, hlc] at e2 hu3
  cases e2
  have hguv : gv ≠ gu := fun e => h4 gv rfl (by rw [e]; rfl)
  have hlen2 : (out.set q ⟨(atE out q).depth, (atE out q).node, (atE out q).from_, f⟩).length = out.length := List.length_set ..
  have hc1 := World.ownsRow.cellAt h2 (q * 4 + 1) (by omega)
  have hc3 := World.ownsRow.cellAt h2 (q * 4 + 3) (by omega)
  rw [enCells_get out q 1 hq (by decide)] at hc1
  rw [enCells_get out q 3 hq (by decide)] at hc3
  have h3o := h3
  unfold OwI at h3o
  rw [opI_len, hlc] at h3o
  have hcu := World.ownsRow.cellAt h3o r.length (by omega)
  rw [List.getElem?_map, opI_top] at hcu
  refine ⟨gv, gu, rfl, rfl, hu3, hcu, by rw [hc1, atE_lt out q hq]; rfl, by rw [hc3, atE_lt out q hq]; rfl, World.ownsRow.frozenAt h2 _, hguv, ⟨?_, ?_, fun k hk' hu => ?_⟩, below_set (Below.refl _ _) hv1 _ _⟩
  · have h8 := (World.ownsRow.stored h2 (q * 4 + 3) (.int .i64 f)).1
    rw [← enCells_set out q f hq] at h8
    unfold OwE
    rw [hlen2]
    exact h8
  · have h8 := owns_take h3o (m := r.length) (by omega)
    rw [Nat.mul_one, ← List.map_take, opI_drop] at h8
    unfold OwI
    rw [opI_len]
    refine owns_keep h8 (fun k hk' => ?_)
    cases hk'
    exact Below.heap_setCell _ ⟨gv, q * 4 + 3, none⟩ _ gu (Ne.symm hguv)
  · cases hk'
    cases hu
    exact hguv rfl
end
theorem docL_none : docL none = ([], false) := rfl
set_option maxRecDepth 100000 in
set_option maxHeartbeats 64000000 in
theorem rOf_calls (fr : List (List Int)) (hn : fr.length ≤ 10000) (hm : fr.flatten.length ≤ 10000) (hrg : rangeR fr) (a : Option Addr) (cp : Nat) (W : World) (hR : RowsAt fr a W) :
    Calls Try.prog 16 #[.slice a fr.length cp] W fun e W' => ∃ b c, e = .returned (.tuple #[.slice b (listT fr).1.length c, .bool (listT fr).2]) ∧ EntsAt (listT fr).1 b W' ∧ Below W.heap.size W W' := by
  obtain ⟨LT, hLT⟩ : ∃ LT, LT = listT fr := ⟨_, rfl⟩
  rw [← hLT]
  obtain ⟨OT, hOT⟩ : ∃ OT, OT = ofRows fr.length 0 ⟨[], [], false⟩ fr := ⟨_, rfl⟩
  have HDEV := Lib.hid (show LT = docL OT by rw [hLT, hOT]; rfl)
  have HOT := Lib.hid hOT
  have HRR := Lib.hid hR
  have HRG := Lib.hid hrg
  have hBW := Lib.hid (Below.refl W.heap.size W)
  clear hLT hOT hR hrg
  go_enter Try.func16, Try.ntmps16
  go_wp2_with fail
  go_loopw [4, 5, 6, 7] (fun v4 v5 v6 vi wr => ∃ (i : Nat) (st : OfS) (av : Option Addr) (cv : Nat) (au : Option Addr) (cu : Nat), i ≤ fr.length ∧ vi = .int .i64 i ∧ v4 = .slice av st.out.length cv ∧ v5 = .slice au st.op.length cu ∧ v6 = .bool st.done ∧ OfInv st ∧ OwM W.heap.size st.out st.op av cv au cu wr ∧ OT = ofRows fr.length i st (fr.drop i) ∧ st.out.length + (fr.drop i).flatten.length ≤ 10000 ∧ st.op.length + (fr.drop i).flatten.length ≤ 10000 ∧ Below W.heap.size W wr) (fun _ _ _ vi _ => fr.length - (intOf vi).toNat)
  case atStart => exact ⟨0, ⟨[], [], false⟩, none, 0, none, 0, Nat.zero_le _, rfl, rfl, rfl, rfl, inv_init, ⟨OwE.nil _ _, OwI.nil _ _, fun g h => (by cases h)⟩, by rw [List.drop_zero]; exact HOT.out, by simpa using hm, by simpa using hm, hBW.out⟩
  case round =>
    obtain ⟨i, st, av, cv, au, cu, hi, rfl, rfl, rfl, rfl, hinv, hb, hot, hl1, hl2, hB⟩ := hrel
    clear hBW HOT
    by_cases hlt : i < fr.length
    · have p1 : decide ((i : Int) < (fr.length : Int)) = true := by rw [decide_eq_true_iff]; omega
      have p2 : decide (i < fr.length) = true := decide_eq_true hlt
      have p4 : (i : Int) < (fr.length : Int) := by omega
      have xi : IntKind.i64.wrap ((i : Int) + 1) = (i : Int) + 1 := IntWalk.i64_in _ (by omega)
      have xl : IntKind.i64.wrap ((fr.length : Int) - 1) = (fr.length : Int) - 1 := IntWalk.i64_in _ (by omega)
      obtain ⟨g, off, rfl, hg, hc⟩ := HRR.out (by rintro rfl; simp at hlt)
      obtain ⟨ra, rc, hcell, hints⟩ := hc i hlt
      have HCI := Lib.hid (fun W' (hW : Below W.heap.size W W') => (hW.cell (p := ⟨g, off + i, none⟩) hg).trans hcell)
      have hrow := HRG.out fr[i] (List.getElem_mem hlt)
      rw [List.drop_eq_getElem_cons hlt] at hot hl1 hl2
      rw [ofRows] at hot
      simp only [List.flatten_cons, List.length_append] at hl1 hl2
      have hdl : (fr.drop (i + 1)).flatten.length ≤ 10000 := by omega
      generalize fr[i] = row at *
      have HOT := Lib.hid hot
      have HINT := Lib.hid hints
      have HROW := Lib.hid hrow
      have HBS := Lib.hid hb
      have HBB := Lib.hid hB
      have HINV := Lib.hid hinv
      obtain ⟨OR, hOR⟩ : ∃ OR, OR = ofRow (i : Int) st row := ⟨_, rfl⟩
      rw [← hOR] at HOT
      have HOR := Lib.hid hOR
      clear hc hcell hints hrow hot hb hB hinv hOR
      go_wp2_with fail
      go_loopw [4, 5, 6, 8] (fun v4 v5 v6 vk wq => ∃ (k : Nat) (s2 : OfS) (av : Option Addr) (cv : Nat) (au : Option Addr) (cu : Nat), k ≤ row.length ∧ vk = .int .i64 k ∧ v4 = .slice av s2.out.length cv ∧ v5 = .slice au s2.op.length cu ∧ v6 = .bool s2.done ∧ OfInv s2 ∧ OwM W.heap.size s2.out s2.op av cv au cu wq ∧ OR = ofRow (i : Int) s2 (row.drop k) ∧ s2.out.length + (row.length - k) + (fr.drop (i + 1)).flatten.length ≤ 10000 ∧ s2.op.length + (row.length - k) + (fr.drop (i + 1)).flatten.length ≤ 10000 ∧ Below W.heap.size W wq) (fun _ _ _ vk _ => row.length - (intOf vk).toNat)
      case atStart => exact ⟨0, st, av, cv, au, cu, Nat.zero_le _, rfl, rfl, rfl, rfl, HINV.out, HBS.out, by rw [List.drop_zero]; exact HOR.out, by omega, by omega, HBB.out⟩
      case round =>
        obtain ⟨k, s2, av2, cv2, au2, cu2, hk, rfl, rfl, rfl, rfl, hinv, hb, hor, hk1, hk2, hB⟩ := hrel
        clear HINV HBS HBB HOR
        have c0 := HCI.out _ hB
        have hWr := hB.size
        by_cases hklt : k < row.length
        · have q1 : decide ((k : Int) < (row.length : Int)) = true := by rw [decide_eq_true_iff]; omega
          have q2 : decide (k < row.length) = true := decide_eq_true hklt
          have q4 : (k : Int) < (row.length : Int) := by omega
          have xk : IntKind.i64.wrap ((k : Int) + 1) = (k : Int) + 1 := IntWalk.i64_in _ (by omega)
          obtain ⟨g2, o2, rfl, hg2, hc2⟩ := HINT.out (by rintro rfl; simp at hklt)
          have d0 := (hB.cell (p := ⟨g2, o2 + k, none⟩) hg2).trans (hc2 k hklt)
          have hrs := HROW.out row[k] (List.getElem_mem hklt)
          rw [List.drop_eq_getElem_cons hklt, ofRow] at hor
          generalize row[k] = s at *
          have hin2 := fun st' => @ofS_inv (i : Int) s2 st' s hinv
          have HBB := Lib.hid hB
          have hfail : ofS (i : Int) s2 s = none → LT = ([], false) := fun h0 => by
            rw [h0] at hor
            have h1 : OR = none := hor
            have h2 := HOT.out
            rw [h1] at h2
            have h3 : OT = none := h2
            rw [HDEV.out, h3]; rfl
          have HFAIL := Lib.hid hfail
          have HNEXT := Lib.hid (show ∀ s3, ofS (i : Int) s2 s = some s3 → OR = ofRow (i : Int) s3 (row.drop (k + 1)) from fun s3 h0 => by rw [hor, h0]; rfl)
          have HIN2 := Lib.hid hin2
          have HM := Lib.hid hb
          clear hc2 hor hb hB hin2 hfail
          by_cases hneg : s < 0
          · have r1 : decide (s < 0) = true := decide_eq_true hneg
            have HL := Lib.hid (HFAIL.out (by unfold ofS; rw [if_pos (.inl hneg)]))
            go_wp2_with fail
            go_ret2
            rw [HL.out]
            first | exact ⟨none, 0, rfl, fun h => absurd rfl h, HBB.out⟩ | exact ⟨none, ⟨0, rfl⟩, fun h => absurd rfl h, HBB.out⟩
          obtain ⟨n, rfl⟩ : ∃ n : Nat, s = n := ⟨s.toNat, by omega⟩
          have r1 : decide ((n : Int) < 0) = false := decide_eq_false hneg
          cases hd : s2.done with
          | true =>
            have HL := Lib.hid (HFAIL.out (by unfold ofS; rw [if_pos (.inr hd)]))
            clear hd hinv
            go_wp2_with fail
            go_ret2
            rw [HL.out]
            first | exact ⟨none, 0, rfl, fun h => absurd rfl h, HBB.out⟩ | exact ⟨none, ⟨0, rfl⟩, fun h => absurd rfl h, HBB.out⟩
          | false =>
          have x1 : IntKind.i64.wrap (((n / 2 : Nat) : Int)) = ((n / 2 : Nat) : Int) := IntWalk.i64_in _ (by omega)
          have x2 : Int.tdiv (n : Int) 2 = ((n / 2 : Nat) : Int) := by rw [Int.tdiv_eq_ediv_of_nonneg (by omega)]; rfl
          have x3 : Int.tmod (n : Int) 2 = ((n % 2 : Nat) : Int) := by rw [Int.tmod_eq_emod_of_nonneg (by omega)]; rfl
          have x4 : IntKind.i64.wrap (((n % 2 : Nat) : Int)) = ((n % 2 : Nat) : Int) := IntWalk.i64_in _ (by omega)
          by_cases hpar : n % 2 = 0
          · have hpo := push_ofS (i : Int) s2 n hd hpar
            obtain ⟨hi3, _, hl3, hl4⟩ := HIN2.out _ hpo
            have HI3 := Lib.hid hi3
            have HNX := Lib.hid (HNEXT.out _ hpo)
            obtain ⟨out, op, dn⟩ := s2
            simp only at hd hk1 hk2 hl3 hl4 HI3 HNX HM
            subst hd
            clear hpo HNEXT HFAIL HIN2 hinv hi3
            rw [hpar] at x3 x4
            generalize n / 2 = m at *
            have hba : Below wr.heap.size wr (wr.alloc (.cells (enI ((op.length : Int) + 1) m i 0) 44)) := (Below.refl _ _).alloc (Nat.le_refl _) _
            obtain ⟨g6, cap6, w6, hr6, hm6, hb6⟩ := HM.out.pushE hWr (by omega) ((op.length : Int) + 1) m i 0 22
            have hb6' := HBB.out.trans hb6
            obtain ⟨g7, cap7, w7, hr7, hm7, hb7⟩ := hm6.pushI hb6'.size (by omega) out.length 35
            have HA6 := Lib.hid hr6
            have HA7 := Lib.hid hr7
            have HM7 := Lib.hid hm7
            have HB7 := Lib.hid (hb6'.trans hb7)
            have xo : IntKind.i64.wrap ((op.length : Int) + 1) = (op.length : Int) + 1 := IntWalk.i64_in _ (by omega)
            have xp : IntKind.i64.wrap ((out.length : Int) + 1 - 1) = (out.length : Int) := by rw [show (out.length : Int) + 1 - 1 = (out.length : Int) by omega]; exact IntWalk.i64_in _ (by omega)
            have xp2 : IntKind.i64.wrap (out.length : Int) = (out.length : Int) := IntWalk.i64_in _ (by omega)
            have hlo : (out ++ [(⟨(op.length : Int) + 1, (m : Int), (i : Int), 0⟩ : EnN)]).length = out.length + 1 := by simp
            clear hba hr6 hm6 hb6 hb6' hr7 hm7 hb7 HM
            go_wp2_with (at_builtin; first | refine wpList_valX rfl (exec_appN rfl rfl rfl HA6.out) ?_ | refine wpList_valX rfl (exec_appI rfl rfl rfl HA7.out) ?_)
            go_roundw
            case rel => exact ⟨k + 1, ⟨_, _, false⟩, _, _, _, _, by omega, by simp, by rw [hlo], rfl, rfl, HI3.out, HM7.out, HNX.out, by simp only [hlo]; omega, by simp only [List.length_cons]; omega, HB7.out⟩
            case measure => simp [intOf]; omega
          · have hpar1 : n % 2 = 1 := by omega
            have hpo := pop_ofS (i : Int) s2 n hd hpar1
            rw [hpar1] at x3 x4
            obtain ⟨out, op, dn⟩ := s2
            simp only at hd hk1 hk2 HM hpo hinv HFAIL HNEXT HIN2
            subst hd
            have hidx := hinv.idx
            simp only at hidx
            generalize n / 2 = m at *
            cases op with
            | nil =>
              have HL := Lib.hid (HFAIL.out (by rw [hpo]; rfl))
              clear hpo HNEXT HFAIL HIN2 hinv
              go_wp2_with fail
              go_ret2
              rw [HL.out]
              first | exact ⟨none, 0, rfl, fun h => absurd rfl h, HBB.out⟩ | exact ⟨none, ⟨0, rfl⟩, fun h => absurd rfl h, HBB.out⟩
            | cons q r =>
              have hq := hidx q (List.mem_cons_self ..)
              have hlc : (q :: r).length = r.length + 1 := rfl
              obtain ⟨gv, gu, rfl, rfl, k2, k3, k4, k5, k6, k7, k8, k9⟩ := HM.out.pop hWr hq (i : Int)
              have xs : IntKind.i64.wrap ((r.length : Int) + 1 - 1) = (r.length : Int) := by rw [show (r.length : Int) + 1 - 1 = (r.length : Int) by omega]; exact IntWalk.i64_in _ (by omega)
              have xs2 : IntKind.i64.wrap (r.length : Int) = (r.length : Int) := IntWalk.i64_in _ (by rw [hlc] at hk2; omega)
              have rI : (r.length : Int) < (r.length : Int) + 1 := by omega
              have r5 : ((r.length : Int) + 1 == 0) = false := beq_eq_false_iff_ne.2 (by omega)
              have g3 : (q : Int) < (out.length : Int) := by omega
              have hpop : popT out (q :: r) (m : Int) (i : Int) = if (atE out q).node = (m : Int) then some ⟨out.set q ⟨(atE out q).depth, (atE out q).node, (atE out q).from_, i⟩, r, r.isEmpty⟩ else none := rfl
              rw [hpop] at hpo
              have HM8 := Lib.hid k8
              have HB8 := Lib.hid (HBB.out.trans k9)
              clear k8 k9 HM hpop hidx hinv
              generalize hnn : (atE out q).node = nd at *
              by_cases hne : nd = (m : Int)
              · subst hne
                rw [if_pos rfl] at hpo
                obtain ⟨hi3, _, hl3, hl4⟩ := HIN2.out _ hpo
                have HI3 := Lib.hid hi3
                have HNX := Lib.hid (HNEXT.out _ hpo)
                have hlo : (out.set q (⟨(atE out q).depth, (m : Int), (atE out q).from_, (i : Int)⟩ : EnN)).length = out.length := List.length_set ..
                have HRE := Lib.hid (show (.bool r.isEmpty : Value) = .bool ((r.length : Int) == 0) by cases r <;> simp <;> omega)
                clear hpo HNEXT HFAIL HIN2 hi3 hnn
                go_wp2_with fail
                go_roundw
                case rel => exact ⟨k + 1, ⟨_, _, r.isEmpty⟩, _, _, _, _, by omega, by simp, by rw [hlo], rfl, by rw [HRE.out] <;> first | rfl | simp, HI3.out, HM8.out, HNX.out, by simp only [hlo]; omega, by rw [hlc] at hk2; simp only; omega, HB8.out⟩
                case measure => simp [intOf]; omega
              · rw [if_neg hne] at hpo
                have HL := Lib.hid (HFAIL.out hpo)
                have r6 : (nd == (m : Int)) = false := beq_eq_false_iff_ne.2 hne
                clear hpo HNEXT HFAIL HIN2 hne hnn HM8 HB8
                go_wp2_with fail
                go_ret2
                rw [HL.out]
                first | exact ⟨none, 0, rfl, fun h => absurd rfl h, HBB.out⟩ | exact ⟨none, ⟨0, rfl⟩, fun h => absurd rfl h, HBB.out⟩
        · obtain rfl : k = row.length := by omega
          have q1 : decide ((row.length : Int) < (row.length : Int)) = false := by rw [decide_eq_false_iff_not]; omega
          rw [List.drop_eq_nil_of_le (Nat.le_refl _), ofRow] at hor
          have hot2 : OT = if s2.done = true ∧ i + 1 < fr.length then none else ofRows fr.length (i + 1) s2 (fr.drop (i + 1)) := by
            have h2 := HOT.out
            rw [hor] at h2
            exact h2
          have HM := Lib.hid hb
          have HI3 := Lib.hid hinv
          have HB3 := Lib.hid hB
          clear hb hinv hB hor HOT
          cases hd : s2.done with
          | false =>
            rw [if_neg (fun h => by rw [hd] at h; cases h.1)] at hot2
            have HOT2 := Lib.hid hot2
            have HD := Lib.hid hd
            clear hot2 hd
            go_wp2_with fail
            go_roundw
            case rel => exact ⟨i + 1, s2, _, _, _, _, by omega, by simp, rfl, rfl, by rw [HD.out], HI3.out, HM.out, HOT2.out, by omega, by omega, HB3.out⟩
            case measure => simp [intOf]; omega
          | true =>
            by_cases hlast : i + 1 < fr.length
            · have r3 : decide ((i : Int) < (fr.length : Int) - 1) = true := by rw [decide_eq_true_iff]; omega
              have r4 : (i : Int) < (fr.length : Int) - 1 := by omega
              have HL := Lib.hid (show LT = ([], false) by rw [HDEV.out, hot2, if_pos ⟨hd, hlast⟩]; rfl)
              clear hot2 hd
              go_wp2_with fail
              go_ret2
              rw [HL.out]
              first | exact ⟨none, 0, rfl, fun h => absurd rfl h, HB3.out⟩ | exact ⟨none, ⟨0, rfl⟩, fun h => absurd rfl h, HB3.out⟩
            · have r3 : decide ((i : Int) < (fr.length : Int) - 1) = false := by rw [decide_eq_false_iff_not]; omega
              rw [if_neg (fun h => hlast h.2)] at hot2
              have HOT2 := Lib.hid hot2
              have HD := Lib.hid hd
              clear hot2 hd
              go_wp2_with fail
              go_roundw
              case rel => exact ⟨i + 1, s2, _, _, _, _, by omega, by simp, rfl, rfl, by rw [HD.out], HI3.out, HM.out, HOT2.out, by omega, by omega, HB3.out⟩
              case measure => simp [intOf]; omega
    · obtain rfl : i = fr.length := by omega
      have p1 : decide ((fr.length : Int) < (fr.length : Int)) = false := by rw [decide_eq_false_iff_not]; omega
      rw [List.drop_eq_nil_of_le (Nat.le_refl _), ofRows] at hot
      have hL : LT = if st.done = true then (st.out, true) else ([], false) := by rw [HDEV.out, hot]; rfl
      have HE := Lib.hid hb.oe.ents
      have HB3 := Lib.hid hB
      clear hot HDEV hinv hb hB
      cases hd : st.done with
      | false =>
        have HL := Lib.hid (show LT = ([], false) by rw [hL, if_neg (by rw [hd]; decide)])
        clear hL hd
        go_wp2_with fail
        go_ret2
        rw [HL.out]
        first | exact ⟨none, 0, rfl, fun h => absurd rfl h, HB3.out⟩ | exact ⟨none, ⟨0, rfl⟩, fun h => absurd rfl h, HB3.out⟩
      | true =>
        have HL := Lib.hid (show LT = (st.out, true) by rw [hL, if_pos hd])
        clear hL hd
        go_wp2_with fail
        go_ret2
        rw [HL.out]
        first | exact ⟨_, _, rfl, HE.out, HB3.out⟩ | exact ⟨_, ⟨_, rfl⟩, HE.out, HB3.out⟩
end Go.Proofs.Ytooolhekihijlaa

/- Stage 14: sure; TreeAhead. -/
namespace Go.Proofs.Ytooolhekihijlaa
open Go.RowKit BS

def s14 : BitVec 256 := BitVec.ofNat 256 (2 ^ 97)
theorem wd14 : wd s14 0 = 0 ∧ wd s14 1 = 8589934592 ∧ wd s14 2 = 0 ∧ wd s14 3 = 0 := by decide +kernel
def l14 : List NdN := [⟨2, -1, -1, 0, s14⟩, ⟨8, 0, -1, 0, 0⟩, ⟨5, 1, -1, 0, 0⟩]
@[reducible] def c14 : Array Value := #[.int .i64 2, .int .i64 (-1), .int .i64 (-1), .int .i64 0, .int .u64 0, .int .u64 8589934592, .int .u64 0, .int .u64 0, .int .i64 8, .int .i64 0, .int .i64 (-1), .int .i64 0, .int .u64 0, .int .u64 0, .int .u64 0, .int .u64 0, .int .i64 5, .int .i64 1, .int .i64 (-1), .int .i64 0, .int .u64 0, .int .u64 0, .int .u64 0, .int .u64 0]
def t14 : List EnN := [⟨1, 2, 0, 2⟩, ⟨2, 1, 0, 1⟩, ⟨3, 0, 0, 1⟩, ⟨2, 1, 1, 2⟩, ⟨3, 0, 1, 2⟩]
@[reducible] def e14 : Array Value := #[.int .i64 1, .int .i64 2, .int .i64 0, .int .i64 2, .int .i64 2, .int .i64 1, .int .i64 0, .int .i64 1, .int .i64 3, .int .i64 0, .int .i64 0, .int .i64 1, .int .i64 2, .int .i64 1, .int .i64 1, .int .i64 2, .int .i64 3, .int .i64 0, .int .i64 1, .int .i64 2]
theorem t14_yes : treeT l14 [97, 97] t14 = true := by decide +kernel
theorem t14_no : treeT l14 [97, 98] t14 = false := by decide +kernel
theorem t14_ahead : aheadT t14 (t14.take 3) = -1 := by decide +kernel
def f14 : List (List Int) := [[4, 2, 0], [1, 3, 2, 0], [1, 3, 5]]
theorem f14_is : framesT l14 [97, 97] t14 = f14 := by decide +kernel
theorem f14_of : listT f14 = (t14, true) := by
  have h1 : (listT f14).1 = t14 := by decide +kernel
  have h2 : (listT f14).2 = true := by decide +kernel
  exact Prod.ext h1 h2
theorem f14_range : rangeR f14 := by
  intro row hr s hs
  simp only [f14, List.mem_cons, List.not_mem_nil, or_false] at hr
  rcases hr with rfl | rfl | rfl <;> simp only [List.mem_cons, List.not_mem_nil, or_false] at hs <;> rcases hs with rfl | rfl | rfl | rfl <;> decide
theorem nd14_a : ndA ⟨2, -1, -1, 0, s14⟩ = #[.int .i64 2, .int .i64 (-1), .int .i64 (-1), .int .i64 0, .int .u64 0, .int .u64 8589934592, .int .u64 0, .int .u64 0] := by
  obtain ⟨y0, y1, y2, y3⟩ := wd14
  generalize s14 = s at *
  show #[Value.int .i64 2, .int .i64 (-1), .int .i64 (-1), .int .i64 0, .int .u64 ((wd s 0 : Nat) : Int), .int .u64 ((wd s 1 : Nat) : Int), .int .u64 ((wd s 2 : Nat) : Int), .int .u64 ((wd s 3 : Nat) : Int)] = _
  rw [y0, y1, y2, y3]
  rfl
theorem nd14_b (k a : Int) : ndA ⟨k, a, -1, 0, 0⟩ = #[.int .i64 k, .int .i64 a, .int .i64 (-1), .int .i64 0, .int .u64 0, .int .u64 0, .int .u64 0, .int .u64 0] := by
  have z0 : wd (0 : BitVec 256) 0 = 0 := by decide
  have z1 : wd (0 : BitVec 256) 1 = 0 := by decide
  have z2 : wd (0 : BitVec 256) 2 = 0 := by decide
  have z3 : wd (0 : BitVec 256) 3 = 0 := by decide
  generalize (0 : BitVec 256) = s at *
  show #[Value.int .i64 k, .int .i64 a, .int .i64 (-1), .int .i64 0, .int .u64 ((wd s 0 : Nat) : Int), .int .u64 ((wd s 1 : Nat) : Int), .int .u64 ((wd s 2 : Nat) : Int), .int .u64 ((wd s 3 : Nat) : Int)] = _
  rw [z0, z1, z2, z3]
  rfl
theorem l14_at (W : World) : NodesAt l14 (some ⟨W.heap.size, 0, none⟩) (W.alloc (.cells c14 49)) := fun _ => by
  have hb := Blk.new W c14 49
  refine ⟨W.heap.size, 0, rfl, hb.lt, fun i hi j hj => ?_⟩
  have hi' : i < 3 := hi
  rw [hb.cell]
  obtain rfl | rfl | rfl : i = 0 ∨ i = 1 ∨ i = 2 := by omega
  · rw [show l14[0] = ⟨2, -1, -1, 0, s14⟩ from rfl, nd14_a]
    obtain rfl | rfl | rfl | rfl | rfl | rfl | rfl | rfl : j = 0 ∨ j = 1 ∨ j = 2 ∨ j = 3 ∨ j = 4 ∨ j = 5 ∨ j = 6 ∨ j = 7 := by omega
    all_goals rfl
  · rw [show l14[1] = ⟨8, 0, -1, 0, 0⟩ from rfl, nd14_b]
    obtain rfl | rfl | rfl | rfl | rfl | rfl | rfl | rfl : j = 0 ∨ j = 1 ∨ j = 2 ∨ j = 3 ∨ j = 4 ∨ j = 5 ∨ j = 6 ∨ j = 7 := by omega
    all_goals rfl
  · rw [show l14[2] = ⟨5, 1, -1, 0, 0⟩ from rfl, nd14_b]
    obtain rfl | rfl | rfl | rfl | rfl | rfl | rfl | rfl : j = 0 ∨ j = 1 ∨ j = 2 ∨ j = 3 ∨ j = 4 ∨ j = 5 ∨ j = 6 ∨ j = 7 := by omega
    all_goals rfl
theorem t14_at (W : World) : EntsAt t14 (some ⟨W.heap.size, 0, none⟩) (W.alloc (.cells e14 44)) := fun _ => by
  have hb := Blk.new W e14 44
  refine ⟨W.heap.size, 0, rfl, hb.lt, fun i hi j hj => ?_⟩
  have hi' : i < 5 := hi
  rw [hb.cell]
  obtain rfl | rfl | rfl | rfl | rfl : i = 0 ∨ i = 1 ∨ i = 2 ∨ i = 3 ∨ i = 4 := by omega
  all_goals
    obtain rfl | rfl | rfl | rfl : j = 0 ∨ j = 1 ∨ j = 2 ∨ j = 3 := by omega
    all_goals rfl
theorem two_at (W : World) (x y : Nat) (m : Nat × Nat) : BtsAt [x, y] (some ⟨W.heap.size, 0, none⟩) (W.alloc (.cells #[.int .u8 (x : Nat), .int .u8 (y : Nat)] 5 m)) := fun _ => by
  have hb : (W.alloc (.cells #[.int .u8 (x : Nat), .int .u8 (y : Nat)] 5 m)).heap[W.heap.size]? = some (.cells #[.int .u8 (x : Nat), .int .u8 (y : Nat)] 5 m) := heap_alloc_new W _
  refine ⟨W.heap.size, 0, rfl, by simp, fun i hi => ?_⟩
  have hi' : i < 2 := hi
  unfold World.cell?
  simp only [Nat.zero_add]
  rw [hb]
  obtain rfl | rfl : i = 0 ∨ i = 1 := by omega
  all_goals rfl
theorem ents_take {t : List EnN} {a : Option Addr} {W : World} (k : Nat) (h : EntsAt t a W) : EntsAt (t.take k) a W := fun hne => by
  have hl : t ≠ [] := by rintro rfl; simp at hne
  obtain ⟨g, o, e, hg, hc⟩ := h hl
  refine ⟨g, o, e, hg, fun i hi j hj => ?_⟩
  rw [List.length_take] at hi
  rw [hc i (by omega) j hj]
  simp
set_option maxRecDepth 100000 in
set_option maxHeartbeats 4000000 in
theorem star_calls (w : World) : Calls Try.prog 20 #[] w fun e w' => ∃ g, e = .returned (.slice (some ⟨g, 0, none⟩) 3 3) ∧ NodesAt l14 (some ⟨g, 0, none⟩) w' ∧ Below w.heap.size w w' := by
  have HN := Lib.hid (l14_at w)
  have HB : Hid (Below w.heap.size w (w.alloc (.cells c14 49))) := Lib.hid ((Below.refl _ _).alloc (Nat.le_refl _) _)
  go_enter Try.func20, Try.ntmps20
  go_wp2_with fail
  go_ret
  exact ⟨_, rfl, HN.out, HB.out⟩
set_option maxRecDepth 100000 in
set_option maxHeartbeats 32000000 in
theorem sure14_calls (w : World) : Calls Try.prog 7 #[] w fun e w' => e = .returned (.bool true) ∧ Below w.heap.size w w' := by
  have b97 : ∀ x ∈ [97, 97], x < 256 := by decide
  have b98 : ∀ x ∈ [97, 98], x < 256 := by decide
  have hfr := fun la wa ta W (h1 : NodesAt l14 la W) (h2 : BtsAt [97, 97] wa W) (h3 : EntsAt t14 ta W) => framesD_calls l14 (by decide) [97, 97] (by decide) b97 t14 (by decide) la wa ta 3 2 5 (by decide) W h1 h2 h3
  rw [f14_is] at hfr
  have HFR : Hid (∀ la wa ta W, NodesAt l14 la W → BtsAt [97, 97] wa W → EntsAt t14 ta W → Calls Try.prog 11 #[.slice la 3 3, .slice wa 2 2, .slice ta 5 5] W fun e W' => ∃ b c, e = .returned (.slice b 3 c) ∧ RowsAt f14 b W' ∧ Below W.heap.size W W') := Lib.hid hfr
  have hof := fun a cp W (h : RowsAt f14 a W) => ofD_calls f14 (by decide) (by decide) f14_range a cp W h
  rw [f14_of] at hof
  have HOF : Hid (∀ a cp W, RowsAt f14 a W → Calls Try.prog 14 #[.slice a 3 cp] W fun e W' => ∃ b c, e = .returned (.tuple #[.slice b 5 c, .bool true]) ∧ EntsAt t14 b W' ∧ Below W.heap.size W W') := Lib.hid hof
  have hr1 := fun la wa ta W (h1 : NodesAt l14 la W) (h2 : BtsAt [97, 97] wa W) (h3 : EntsAt t14 ta W) => treeRight_calls l14 (by decide) [97, 97] (by decide) b97 t14 (by decide) la wa ta 3 2 5 (by decide) W h1 h2 h3
  rw [t14_yes] at hr1
  have HR1 : Hid (∀ la wa ta W, NodesAt l14 la W → BtsAt [97, 97] wa W → EntsAt t14 ta W → Calls Try.prog 17 #[.slice la 3 3, .slice wa 2 2, .slice ta 5 5] W fun e W' => e = .returned (.bool true) ∧ Below W.heap.size W W') := Lib.hid hr1
  have hr2 := fun la wa ta W (h1 : NodesAt l14 la W) (h2 : BtsAt [97, 98] wa W) (h3 : EntsAt t14 ta W) => treeRight_calls l14 (by decide) [97, 98] (by decide) b98 t14 (by decide) la wa ta 3 2 5 (by decide) W h1 h2 h3
  rw [t14_no] at hr2
  have HR2 : Hid (∀ la wa ta W, NodesAt l14 la W → BtsAt [97, 98] wa W → EntsAt t14 ta W → Calls Try.prog 17 #[.slice la 3 3, .slice wa 2 2, .slice ta 5 5] W fun e W' => e = .returned (.bool false) ∧ Below W.heap.size W W') := Lib.hid hr2
  have hah := fun ta tb W (h1 : EntsAt t14 ta W) (h2 : EntsAt (t14.take 3) tb W) => aheadD_calls t14 (t14.take 3) (by decide) (by decide) ta tb 5 5 W h1 h2
  rw [t14_ahead] at hah
  have HAH : Hid (∀ ta tb W, EntsAt t14 ta W → EntsAt (t14.take 3) tb W → Calls Try.prog 8 #[.slice ta 5 5, .slice tb 3 5] W fun e W' => e = .returned (.int .i64 (-1)) ∧ Below W.heap.size W W') := Lib.hid hah
  have hin := fun a b c1 c2 W (h1 : IntsO [1, 3, 2, 0] a W) (h2 : IntsO [1, 3, 2, 0] b W) => ints_same [1, 3, 2, 0] (by decide) a b c1 c2 W h1 h2
  have HIN : Hid (∀ a b c1 c2 W, IntsO [1, 3, 2, 0] a W → IntsO [1, 3, 2, 0] b W → Calls Try.prog 13 #[.slice a 4 c1, .slice b 4 c2] W fun e W' => e = .returned (.bool true) ∧ Below W.heap.size W W') := Lib.hid hin
  have hsa := fun ta tb ca cb W (h1 : EntsAt t14 ta W) (h2 : EntsAt t14 tb W) => sameE_calls t14 t14 (by decide) (by decide) ta tb ca cb W h1 h2
  rw [decide_eq_true rfl] at hsa
  have HSA : Hid (∀ ta tb ca cb W, EntsAt t14 ta W → EntsAt t14 tb W → Calls Try.prog 15 #[.slice ta 5 ca, .slice tb 5 cb] W fun e W' => e = .returned (.bool true) ∧ Below W.heap.size W W') := Lib.hid hsa
  have HST := Lib.hid (fun W => star_calls W)
  have HT := Lib.hid (t14_at w)
  have HB : Hid (Below w.heap.size w (w.alloc (.cells e14 44))) := Lib.hid ((Below.refl _ _).alloc (Nat.le_refl _) _)
  clear hfr hof hr1 hr2 hah hin hsa b97 b98
  have hcv : ∀ W : World, (convert 28 28 (.slice (some ⟨W.heap.size, 0, none⟩) 2 2)).run Try.prog (W.alloc (.cells #[.int .u8 97, .int .u8 97] 5)) = .ok (.slice (some ⟨W.heap.size, 0, none⟩) 2 2) (W.alloc (.cells #[.int .u8 97, .int .u8 97] 5 (2, 3))) := fun W => Lib.run_convert_bytes_const W 28 5 #[.int .u8 97, .int .u8 97] 2 2 Try.underlying28 Try.underlying5
  have hcw : ∀ W : World, (convert 28 28 (.slice (some ⟨W.heap.size, 0, none⟩) 2 2)).run Try.prog (W.alloc (.cells #[.int .u8 97, .int .u8 98] 5)) = .ok (.slice (some ⟨W.heap.size, 0, none⟩) 2 2) (W.alloc (.cells #[.int .u8 97, .int .u8 98] 5 (2, 3))) := fun W => Lib.run_convert_bytes_const W 28 5 #[.int .u8 97, .int .u8 98] 2 2 Try.underlying28 Try.underlying5
  go_enter Try.func7, Try.ntmps7
  go_upto_region 2 with fail
  have hEs : w.heap.size < (w.alloc (.cells e14 44)).heap.size := by rw [World.size_alloc]; omega
  generalize w.alloc (.cells e14 44) = w1 at *
  go_wp2_with fail
  refine (HST.out _).mono ?_
  rintro e w2 ⟨g2, rfl, hn2, hb2⟩
  have HB2 := Lib.hid (HB.out.trans (hb2.mono HB.out.size))
  have hbb : Below w2.heap.size w2 (w2.alloc (.cells #[.int .u8 97, .int .u8 97] 5 (2, 3))) := (Below.refl _ _).alloc (Nat.le_refl _) _
  have HF3 := Lib.hid (HFR.out _ _ _ _ (hn2.below hbb) (two_at w2 97 97 (2, 3)) ((HT.out.below hb2).below hbb))
  have HT3 := Lib.hid ((HT.out.below hb2).below hbb)
  have HB3 := Lib.hid (HB2.out.trans (hbb.mono HB2.out.size))
  clear hn2 hb2 hbb HT HB HB2 hEs
  go_wp2_with fail
  refine HF3.out.mono ?_
  rintro e w4 ⟨bf, cf, rfl, hrf, hb4⟩
  have HB4 := Lib.hid (HB3.out.trans (hb4.mono HB3.out.size))
  have HT4 := Lib.hid (HT3.out.below hb4)
  have HRF := Lib.hid hrf
  clear hrf hb4 HF3 HT3 HB3 HFR
  go_wp2_with fail
  refine (HOF.out _ _ _ HRF.out).mono ?_
  rintro e w5 ⟨bu, cu, rfl, hu5, hb5⟩
  have HB5 := Lib.hid (HB4.out.trans (hb5.mono HB4.out.size))
  have HT5 := Lib.hid (HT4.out.below hb5)
  have HRF5 := Lib.hid (HRF.out.below hb5)
  have HU5 := Lib.hid hu5
  clear hu5 hb5 HT4 HRF HB4 HOF
  go_wp2_with fail
  refine (HST.out _).mono ?_
  rintro e w6 ⟨g6, rfl, hn6, hb6⟩
  have hbb : Below w6.heap.size w6 (w6.alloc (.cells #[.int .u8 97, .int .u8 97] 5 (2, 3))) := (Below.refl _ _).alloc (Nat.le_refl _) _
  have hb7 := hb6.trans (hbb.mono hb6.size)
  have HR6 := Lib.hid (HR1.out _ _ _ _ (hn6.below hbb) (two_at w6 97 97 (2, 3)) (HT5.out.below hb7))
  have HB6 := Lib.hid (HB5.out.trans (hb7.mono HB5.out.size))
  have HT6 := Lib.hid (HT5.out.below hb7)
  have HRF6 := Lib.hid (HRF5.out.below hb7)
  have HU6 := Lib.hid (HU5.out.below hb7)
  clear hn6 hb6 hbb hb7 HT5 HRF5 HU5 HB5 HR1
  go_wp2_with fail
  refine HR6.out.mono ?_
  rintro e w7 ⟨rfl, hb7⟩
  have HB7 := Lib.hid (HB6.out.trans (hb7.mono HB6.out.size))
  have HT7 := Lib.hid (HT6.out.below hb7)
  have HRF7 := Lib.hid (HRF6.out.below hb7)
  have HU7 := Lib.hid (HU6.out.below hb7)
  clear hb7 HT6 HRF6 HU6 HB6 HR6
  go_wp2_with fail
  refine (HST.out _).mono ?_
  rintro e w8 ⟨g8, rfl, hn8, hb8⟩
  have hbb : Below w8.heap.size w8 (w8.alloc (.cells #[.int .u8 97, .int .u8 98] 5 (2, 3))) := (Below.refl _ _).alloc (Nat.le_refl _) _
  have hb9 := hb8.trans (hbb.mono hb8.size)
  have HR8 := Lib.hid (HR2.out _ _ _ _ (hn8.below hbb) (two_at w8 97 98 (2, 3)) (HT7.out.below hb9))
  have HB8 := Lib.hid (HB7.out.trans (hb9.mono HB7.out.size))
  have HT8 := Lib.hid (HT7.out.below hb9)
  have HRF8 := Lib.hid (HRF7.out.below hb9)
  have HU8 := Lib.hid (HU7.out.below hb9)
  clear hn8 hb8 hbb hb9 HT7 HRF7 HU7 HB7 HR2
  go_wp2_with fail
  refine HR8.out.mono ?_
  rintro e w9 ⟨rfl, hb9⟩
  have HB9 := Lib.hid (HB8.out.trans (hb9.mono HB8.out.size))
  have HT9 := Lib.hid (HT8.out.below hb9)
  have HRF9 := Lib.hid (HRF8.out.below hb9)
  have HU9 := Lib.hid (HU8.out.below hb9)
  clear hb9 HT8 HRF8 HU8 HB8 HR8
  go_wp2_with fail
  refine (HAH.out _ _ _ HT9.out (ents_take 3 HT9.out)).mono ?_
  rintro e wa ⟨rfl, hba⟩
  have HBa := Lib.hid (HB9.out.trans (hba.mono HB9.out.size))
  have HTa := Lib.hid (HT9.out.below hba)
  have HUa := Lib.hid (HU9.out.below hba)
  obtain ⟨gf, of, ef, hgf, hcf⟩ := (HRF9.out.below hba) (by decide)
  subst ef
  obtain ⟨b1, cb1, hc1, hi1⟩ := hcf 1 (by decide)
  have hi1' : IntsO [1, 3, 2, 0] b1 wa := hi1
  have hc1' : wa.cell? ⟨gf, of + 1, none⟩ = some (.slice b1 4 cb1) := hc1
  have hbb : Below wa.heap.size wa (wa.alloc (.cells #[.int .i64 1, .int .i64 3, .int .i64 2, .int .i64 0] 3)) := (Below.refl _ _).alloc (Nat.le_refl _) _
  have hx4 : IntsO [1, 3, 2, 0] (some ⟨wa.heap.size, 0, none⟩) (wa.alloc (.cells #[.int .i64 1, .int .i64 3, .int .i64 2, .int .i64 0] 3)) := IntsO.of_blk (Blk.new wa _ _)
  have HIN2 := Lib.hid (HIN.out _ _ cb1 4 _ (hi1'.below hbb) hx4)
  have HBb := Lib.hid (HBa.out.trans (hbb.mono HBa.out.size))
  have HTb := Lib.hid (HTa.out.below hbb)
  have HUb := Lib.hid (HUa.out.below hbb)
  clear hba hcf hc1 hi1 hi1' hbb hx4 HT9 HRF9 HU9 HB9 HAH HTa HUa HBa HIN
  go_wp2_with fail
  refine HIN2.out.mono ?_
  rintro e wc ⟨rfl, hbc⟩
  have HBc := Lib.hid (HBb.out.trans (hbc.mono HBb.out.size))
  have HSA2 := Lib.hid (HSA.out _ _ 5 cu _ (HTb.out.below hbc) (HUb.out.below hbc))
  clear hbc HTb HUb HBb HIN2 HSA hc1'
  go_wp2_with fail
  refine HSA2.out.mono ?_
  rintro e wd ⟨rfl, hbd⟩
  go_wp2_with fail
  go_ret
  exact ⟨rfl, HBc.out.trans (hbd.mono HBc.out.size)⟩
end Go.Proofs.Ytooolhekihijlaa

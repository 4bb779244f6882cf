/- Texts put together: Twb. -/
import Derived.Test.YtdpkhliojbeglaaDoorQAh
import Derived.BigQuiet
import Derived.Lib.SlBytesConst
/- Stage 15: sure. -/
namespace Go.Proofs.YtdpkhliojbeglaaDoor
open Go.RowKit BS

@[reducible] def GTab (W : World) : Prop := Tab W ∧ 0 < W.heap.size
theorem GTab.keep {W W' : World} (h : GTab W) (hb : Below W.heap.size W W') : GTab W' := ⟨h.1.keep hb h.2, Nat.lt_of_lt_of_le h.2 hb.size⟩
set_option maxRecDepth 100000 in
set_option maxHeartbeats 32000000 in
theorem sure15_calls (w : World) (hTab : GTab w) : Calls Tryd.prog 10 #[] w fun e w' => e = .returned (.bool true) ∧ Below w.heap.size w w' := by
  have b1 : ∀ x ∈ [97, 98], x < 256 := by decide
  have b2 : ∀ x ∈ [99, 97, 98, 97], x < 256 := by decide
  have b3 : ∀ x ∈ [98], x < 256 := by decide
  have hm := fun la wa W (h1 : NodesAt l15 la W) (h2 : BtsAt [97, 98] wa W) (h3 : GTab W) => matchL_calls l15 (by decide) [97, 98] (by decide) b1 9 2 la wa n15 W h1 h2 h3.1 h3.2
  rw [m15] at hm
  have HM : Hid (∀ la wa W, NodesAt l15 la W → BtsAt [97, 98] wa W → GTab W → Calls Tryd.prog 16 #[.slice la 9 9, .slice wa 2 2] W fun e W' => ∃ b c, e = .returned (.tuple #[.slice b 2 c, .int .i64 0]) ∧ SpnAt [(0, 2), (0, 2)] b W' ∧ Below W.heap.size W W') := Lib.hid hm
  have hf := fun la wa W (h1 : NodesAt l15 la W) (h2 : BtsAt [99, 97, 98, 97] wa W) (h3 : GTab W) => findL_calls l15 (by decide) [99, 97, 98, 97] (by decide) b2 9 4 la wa (fun _ _ => by decide) W h1 h2 h3.1 h3.2
  rw [f15] at hf
  have HF : Hid (∀ la wa W, NodesAt l15 la W → BtsAt [99, 97, 98, 97] wa W → GTab W → Calls Tryd.prog 18 #[.slice la 9 9, .slice wa 4 4] W fun e W' => ∃ b c, e = .returned (.tuple #[.slice b 2 c, .int .i64 0]) ∧ SpnAt [(1, 3), (1, 3)] b W' ∧ Below W.heap.size W W') := Lib.hid hf
  have ht := fun la wa W (h1 : NodesAt l15 la W) (h2 : BtsAt [98] wa W) (h3 : GTab W) => treeL_calls l15 (by decide) [98] (by decide) b3 9 1 la wa W h1 h2 h3.1 h3.2
  rw [t15] at ht
  have HT : Hid (∀ la wa W, NodesAt l15 la W → BtsAt [98] wa W → GTab W → Calls Tryd.prog 11 #[.slice la 9 9, .slice wa 1 1] W fun e W' => ∃ v, e = .returned (.tuple #[v, .int .i64 7]) ∧ OwE W.heap.size v (treeV l15 [98]).1 W' ∧ Below W.heap.size W W') := Lib.hid ht
  have hs1 := fun a b ca cb W (h1 : SpnAt [(0, 2), (0, 2)] a W) (h2 : SpnAt [(0, 2), (0, 2)] b W) => spanned_calls [(0, 2), (0, 2)] [(0, 2), (0, 2)] (by decide) (by decide) a b ca cb W h1 h2
  rw [decide_eq_true rfl] at hs1
  have HS1 : Hid (∀ a b ca cb W, SpnAt [(0, 2), (0, 2)] a W → SpnAt [(0, 2), (0, 2)] b W → Calls Tryd.prog 20 #[.slice a 2 ca, .slice b 2 cb] W fun e W' => e = .returned (.bool true) ∧ Below W.heap.size W W') := Lib.hid hs1
  have hs2 := fun a b ca cb W (h1 : SpnAt [(1, 3), (1, 3)] a W) (h2 : SpnAt [(1, 3), (1, 3)] b W) => spanned_calls [(1, 3), (1, 3)] [(1, 3), (1, 3)] (by decide) (by decide) a b ca cb W h1 h2
  rw [decide_eq_true rfl] at hs2
  have HS2 : Hid (∀ a b ca cb W, SpnAt [(1, 3), (1, 3)] a W → SpnAt [(1, 3), (1, 3)] b W → Calls Tryd.prog 20 #[.slice a 2 ca, .slice b 2 cb] W fun e W' => e = .returned (.bool true) ∧ Below W.heap.size W W') := Lib.hid hs2
  have HA := Lib.hid (fun W => letter97 W)
  have HBB := Lib.hid (fun W => letter98 W)
  have HG := Lib.hid hTab
  clear hm hf ht hs1 hs2 b1 b2 b3 hTab
  have hcva : ∀ W : World, (convert 23 23 (.slice (some ⟨W.heap.size, 0, none⟩) 2 2)).run Tryd.prog (W.alloc (.cells #[.int .u8 97, .int .u8 98] 5)) = .ok (.slice (some ⟨W.heap.size, 0, none⟩) 2 2) (W.alloc (.cells #[.int .u8 97, .int .u8 98] 5 (2, 3))) := fun W => Lib.run_convert_bytes_const W 23 5 #[.int .u8 97, .int .u8 98] 2 2 Tryd.underlying23 Tryd.underlying5
  have hcvb : ∀ W : World, (convert 23 23 (.slice (some ⟨W.heap.size, 0, none⟩) 4 4)).run Tryd.prog (W.alloc (.cells #[.int .u8 99, .int .u8 97, .int .u8 98, .int .u8 97] 5)) = .ok (.slice (some ⟨W.heap.size, 0, none⟩) 4 4) (W.alloc (.cells #[.int .u8 99, .int .u8 97, .int .u8 98, .int .u8 97] 5 (4, 5))) := fun W => Lib.run_convert_bytes_const W 23 5 #[.int .u8 99, .int .u8 97, .int .u8 98, .int .u8 97] 4 4 Tryd.underlying23 Tryd.underlying5
  have hcvc : ∀ W : World, (convert 23 23 (.slice (some ⟨W.heap.size, 0, none⟩) 1 1)).run Tryd.prog (W.alloc (.cells #[.int .u8 98] 5)) = .ok (.slice (some ⟨W.heap.size, 0, none⟩) 1 1) (W.alloc (.cells #[.int .u8 98] 5 (1, 2))) := fun W => Lib.run_convert_bytes_const W 23 5 #[.int .u8 98] 1 1 Tryd.underlying23 Tryd.underlying5
  go_enter Tryd.func10, Tryd.ntmps10
  go_wp2_with fail
  refine (HA.out _).mono ?_
  rintro e w1 ⟨rfl, hb1⟩
  have HB1 := Lib.hid hb1
  clear hb1
  go_wp2_with fail
  refine (HA.out _).mono ?_
  rintro e w2 ⟨rfl, hb2⟩
  have HB2 := Lib.hid (HB1.out.trans (hb2.mono HB1.out.size))
  clear hb2 HB1
  go_wp2_with fail
  refine (HBB.out _).mono ?_
  rintro e w3 ⟨rfl, hb3⟩
  have HB3 := Lib.hid (HB2.out.trans (hb3.mono HB2.out.size))
  clear hb3 HB2
  go_wp2_with fail
  refine (HBB.out _).mono ?_
  rintro e w4 ⟨rfl, hb4⟩
  have HB4 := Lib.hid (HB3.out.trans (hb4.mono HB3.out.size))
  clear hb4 HB3
  have HN := Lib.hid (l15_at w4)
  have HB5 : Hid (Below w.heap.size w (w4.alloc (.cells d15 60))) := Lib.hid (HB4.out.alloc HB4.out.size _)
  clear HB4 HA HBB
  go_upto_region 2 with fail
  generalize w4.alloc (.cells d15 60) = w5 at *
  have HBX := HB5
  clear HB5
  go_wp2_with fail
  have hbb : Below w5.heap.size w5 (w5.alloc (.cells #[.int .u8 97, .int .u8 98] 5 (2, 3))) := (Below.refl _ _).alloc (Nat.le_refl _) _
  have hb := HBX.out.trans (hbb.mono HBX.out.size)
  have HC := Lib.hid (HM.out _ _ _ (HN.out.below hbb) (bts_at [97, 98] #[.int .u8 97, .int .u8 98] (by intro i hi; simp only [List.length_cons, List.length_nil] at hi; match i, hi with | 0, _ => rfl | 1, _ => rfl) w5 (2, 3)) (HG.out.keep hb))
  have HN' := Lib.hid (HN.out.below hbb)
  have HB' := Lib.hid hb
  clear hbb hb HN HBX  HM
  refine HC.out.mono ?_
  rintro e w6 ⟨sm, cm, rfl, hsm, hb⟩
  have HN := Lib.hid (HN'.out.below hb)
  have HBX := Lib.hid (HB'.out.trans (hb.mono HB'.out.size))
  clear hb HN' HB' HC 
  have HSM := Lib.hid hsm
  clear hsm
  go_wp2_with fail
  have hbb : Below w6.heap.size w6 (w6.alloc (.cells #[.int .u8 99, .int .u8 97, .int .u8 98, .int .u8 97] 5 (4, 5))) := (Below.refl _ _).alloc (Nat.le_refl _) _
  have hb := HBX.out.trans (hbb.mono HBX.out.size)
  have HC := Lib.hid (HF.out _ _ _ (HN.out.below hbb) (bts_at [99, 97, 98, 97] #[.int .u8 99, .int .u8 97, .int .u8 98, .int .u8 97] (by intro i hi; simp only [List.length_cons, List.length_nil] at hi; match i, hi with | 0, _ => rfl | 1, _ => rfl | 2, _ => rfl | 3, _ => rfl) w6 (4, 5)) (HG.out.keep hb))
  have HN' := Lib.hid (HN.out.below hbb)
  have HB' := Lib.hid hb
  have HSM' := Lib.hid (HSM.out.below hbb)
  clear hbb hb HN HBX HSM HF
  refine HC.out.mono ?_
  rintro e w7 ⟨sf, cf, rfl, hsf, hb⟩
  have HN := Lib.hid (HN'.out.below hb)
  have HBX := Lib.hid (HB'.out.trans (hb.mono HB'.out.size))
  have HSM := Lib.hid (HSM'.out.below hb)
  clear hb HN' HB' HC HSM'
  have HSF := Lib.hid hsf
  clear hsf
  go_wp2_with fail
  have hbb : Below w7.heap.size w7 (w7.alloc (.cells #[.int .u8 98] 5 (1, 2))) := (Below.refl _ _).alloc (Nat.le_refl _) _
  have hb := HBX.out.trans (hbb.mono HBX.out.size)
  have HC := Lib.hid (HT.out _ _ _ (HN.out.below hbb) (bts_at [98] #[.int .u8 98] (by intro i hi; simp only [List.length_cons, List.length_nil] at hi; match i, hi with | 0, _ => rfl) w7 (1, 2)) (HG.out.keep hb))
  have HN' := Lib.hid (HN.out.below hbb)
  have HB' := Lib.hid hb
  have HSM' := Lib.hid (HSM.out.below hbb)
  have HSF' := Lib.hid (HSF.out.below hbb)
  clear hbb hb HN HBX HSM HSF HT
  refine HC.out.mono ?_
  rintro e w8 ⟨v, rfl, _, hb⟩
  have HN := Lib.hid (HN'.out.below hb)
  have HBX := Lib.hid (HB'.out.trans (hb.mono HB'.out.size))
  have HSM := Lib.hid (HSM'.out.below hb)
  have HSF := Lib.hid (HSF'.out.below hb)
  clear hb HN' HB' HC HSM' HSF'
  clear HN HG
  go_wp2_with fail
  have hbb : Below w8.heap.size w8 (w8.alloc (.cells #[.int .i64 0, .int .i64 2, .int .i64 0, .int .i64 2] 25)) := (Below.refl _ _).alloc (Nat.le_refl _) _
  have HC := Lib.hid (HS1.out _ _ cm 2 _ (HSM.out.below hbb) (spn_at 0 2 w8))
  have HBX2 := Lib.hid (HBX.out.trans (hbb.mono HBX.out.size))
  have HSF2 := Lib.hid (HSF.out.below hbb)
  clear hbb HBX HSM HS1 HSF
  refine HC.out.mono ?_
  rintro e w9 ⟨rfl, hb⟩
  have HBX := Lib.hid (HBX2.out.trans (hb.mono HBX2.out.size))
  have HSF := Lib.hid (HSF2.out.below hb)
  clear hb HBX2 HC HSF2
  go_wp2_with fail
  have hbb : Below w9.heap.size w9 (w9.alloc (.cells #[.int .i64 1, .int .i64 3, .int .i64 1, .int .i64 3] 25)) := (Below.refl _ _).alloc (Nat.le_refl _) _
  have HC := Lib.hid (HS2.out _ _ cf 2 _ (HSF.out.below hbb) (spn_at 1 3 w9))
  have HBX2 := Lib.hid (HBX.out.trans (hbb.mono HBX.out.size))
  clear hbb HBX HSF HS2 
  refine HC.out.mono ?_
  rintro e wa ⟨rfl, hb⟩
  have HBX := Lib.hid (HBX2.out.trans (hb.mono HBX2.out.size))
  clear hb HBX2 HC 
  go_wp2_with fail
  go_ret
  exact ⟨rfl, HBX.out⟩
end Go.Proofs.YtdpkhliojbeglaaDoor

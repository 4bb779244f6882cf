/- Texts put together: Mb Mc. -/
import Derived.Test.YtbccojjcdcighaaGreatDoorQH
import Derived.Test.YtbccojjcdcighaaGreatDoorQD
namespace Go.Proofs.YtbccojjcdcighaaGreatDoor
open Go.RowKit
@[reducible] def nuI (v d:Int):Array Value:=#[.int .i64 v,.int .i64 d]
theorem nu_one (v d:Int):((nuI v d).all fun x=>x.oneCell')=true:=by simp [Value.oneCell']
def SDi (w:World) (v d:Int) (W:World):Prop:=(Blk W w.heap.size (nuI 0 0) 219∧Blk W (w.heap.size+1) (nuI v d) 219)∧Below w.heap.size w W
theorem SDi.drewS {w W:World} {v d:Int} (h:SDi w v d W):SDi w v d W.drew:=⟨⟨h.1.1,h.1.2⟩,h.2.drew⟩
theorem SDi.keep {w W W':World} {v d:Int} (h:SDi w v d W) (hb:Below W.heap.size W W'):SDi w v d W':=⟨⟨h.1.1.below hb h.1.1.lt,h.1.2.below hb h.1.2.lt⟩,h.2.trans (hb.mono h.2.size)⟩
theorem SDi.set {w W:World} {v d v' d':Int} (h:SDi w v d W):SDi w v' d' ((W.setCell ⟨w.heap.size+1,0,none⟩ (.int .i64 v')).setCell ⟨w.heap.size+1,1,none⟩ (.int .i64 d')):=by
 have hne:w.heap.size≠w.heap.size+1:=by omega
 exact ⟨⟨(h.1.1.other hne 0 _).other hne 1 _,(h.1.2.set 0 _).set 1 _⟩,below_set (below_set h.2 (show w.heap.size≤w.heap.size+1 by omega) 0 _) (show w.heap.size≤w.heap.size+1 by omega) 1 _⟩
def dgV (r:Nat×Nat×Nat×Nat):Value:=.tuple #[.agg (nuI r.1 r.2.1),.int .i64 r.2.2.1,.int .i64 r.2.2.2]
def InvD (v d:Nat):Prop:=d≤2∧(d=0→v=0)∧(d≤1→v≤9)∧v≤99
set_option maxRecDepth 100000 in
set_option maxHeartbeats 16000000 in
theorem digsD_calls (s:ByteArray) (hs:s.size≤1000000) (i0 least:Nat) (hi0:i0≤s.size) (w:World):
 Calls Tryz.prog 179 #[.string s,.int .i64 i0,.int .i64 least] w fun en w'=>en=.returned (dgV (digsD s i0 least))∧Below w.heap.size w w':=by
 have hS0:SDi w 0 0 ((w.alloc (.cells (nuI 0 0) 219)).alloc (.cells (nuI 0 0) 219)):=by
  refine ⟨⟨(Blk.new w _ _).alloc _,?_⟩,by go_grown⟩;have:=Blk.new (w.alloc (.cells (nuI 0 0) 219)) (nuI 0 0) 219
  rwa [World.size_alloc] at this
 have HS0:=Lib.hid hS0;clear hS0;generalize hR:digsD s i0 least=R;unfold digsD at hR;have HRR:=Lib.hid hR;clear hR;go_enter Tryz.func179,Tryz.ntmps179
 go_wp2_with fail
 have e0:(w.alloc (.cells #[.int .i64 0,.int .i64 0] 219)).alloc (.cells #[.int .i64 0,.int .i64 0] 219)=(w.alloc (.cells (nuI 0 0) 219)).alloc (.cells (nuI 0 0) 219):=rfl
 try rw [e0]
 clear e0;generalize (w.alloc (.cells (nuI 0 0) 219)).alloc (.cells (nuI 0 0) 219)=w1 at*
 go_loopw [1] (fun x wr=>∃(v d i:Nat),InvD v d∧i≤s.size∧x=.int .i64 i∧digD s least (s.size - i) i v d=R∧SDi w v d wr) (fun x _=>s.size - (intOf x).toNat)
 case atStart=>exact ⟨0,0,i0,⟨by omega,fun _=>rfl,by omega,by omega⟩,hi0,rfl,HRR.out,HS0.out⟩
 case round=>
  clear HRR HS0;obtain ⟨v,d,i,hI,hi,rfl,hres,hS⟩:=hrel;obtain ⟨i1,i2,i3,i4⟩:=hI
  by_cases hlt:i<s.size
  ·have b0:s[i].toNat=bt s i:=(bt_eq s i hlt).symm
   have hb:=bt_lt s i;rw [show s.size - i=(s.size - (i+1))+1 by omega,digD] at hres;generalize bt s i=b at*
   by_cases hd:48≤b∧b≤57
   ·have hd1:=hd.1
    have hd2:=hd.2;have q1:decide ((48:Int)≤(b:Int))=true:=by rw [decide_eq_true_eq];omega
    have q2:decide ((b:Int)≤57)=true:=by rw [decide_eq_true_eq];omega
    rw [if_pos hd] at hres;clear hd;have HF:=Lib.hid (full_calls v d)
    cases hf:fullD v d with
    |true=>
     rw [hf] at hres HF;rw [if_pos rfl] at hres;subst hres;clear hf;have c0:=hS.1.2.cell 0;have c1:=hS.1.2.cell 1;simp only [List.getElem?_toArray,List.getElem?_cons_zero,List.getElem?_cons_succ] at c0 c1;have HS:=Lib.hid hS;clear hS
     go_wp2_with fail
     refine (HF.out _).mono ?_;rintro e w2 ⟨rfl,hb2⟩;have HS2:=Lib.hid (HS.out.keep hb2);clear HS hb2 HF c0 c1
     go_wp2_with ((with_reducible refine wpList_store_st (o:=⟨none,.store 219 _ _,_,_,_,_⟩) rfl 219 _ _ rfl w.heap.size rfl rfl (run_storeAt_row _ w.heap.size 219 219 (nuI 0 0) (nuI 0 0) ?_ ?_ ?_ ?_) ?_);exact HS2.out.1.1;exact infoNu;rfl;exact nu_one _ _)
     have hG:=Blk.setRow (cs:=nuI 0 0) HS2.out.1.1;have e0:=hG.cell 0;have e1:=hG.cell 1;simp only [List.getElem?_toArray,List.getElem?_cons_zero,List.getElem?_cons_succ] at e0 e1;exact bodyPost_ret (v:=.tuple #[.agg (nuI 0 0),.int .i64 ((i:Int)+1),.int .i64 6]) (by simp [results,Tryz.results179,go_sem,e0,e1]) rfl ⟨rfl,below_row HS2.out.2 (Nat.le_refl _) _⟩
    |false=>
     rw [hf] at hres HF;rw [if_neg (by decide)] at hres;have hd01:d≤1:=by
      have h:¬(d=2):=by rintro rfl;simp [fullD] at hf
      omega
     have hv9:v≤9:=i3 hd01;have hInv:InvD (10*v+(b - 48)) (d+1):=by
      refine ⟨by omega,fun h=>by omega,fun h=>?_,by omega⟩;have h0:d=0:=by omega
      have:=i2 h0
      omega
     have c0:=hS.1.2.cell 0;have c1:=hS.1.2.cell 1;simp only [List.getElem?_toArray,List.getElem?_cons_zero,List.getElem?_cons_succ] at c0 c1;have HI:=Lib.hid hInv;have HS:=Lib.hid hS;clear hS hf i1 i2 i3 i4 hInv
     go_wp2_with fail
     refine (HF.out _).mono ?_;rintro e w2 ⟨rfl,hb2⟩;have HS2:=Lib.hid (HS.out.keep hb2);clear HS hb2 HF c0 c1;have HM:=Lib.hid (most_calls (10*v+(b - 48)) (d+1) (by omega));have HRES:=Lib.hid hres;clear hres;have hx:10*(v:Int)+((b:Int) - 48)=((10*v+(b - 48):Nat):Int):=by omega
     have hy:(d:Int)+1=((d+1:Nat):Int):=by omega
     have x1:IntKind.i64.wrap (10*(v:Int))=10*(v:Int):=IntWalk.i64_in _ (by omega);have x2:IntKind.u8.wrap ((b:Int) - 48)=(b:Int) - 48:=by rw [IntKind.wrap_u8];omega
     have x3:IntKind.i64.wrap ((b:Int) - 48)=(b:Int) - 48:=IntWalk.i64_in _ (by omega);have x4:IntKind.i64.wrap ((10*v+(b - 48):Nat):Int)=((10*v+(b - 48):Nat):Int):=IntWalk.i64_in _ (by omega);have x5:IntKind.i64.wrap ((d+1:Nat):Int)=((d+1:Nat):Int):=IntWalk.i64_in _ (by omega);generalize hV:10*v+(b - 48)=V at*;generalize hD:d+1=D at*
     go_wp2_with fail
     refine region_stepsM (S:=SDi w v d) (m:=13) rfl (by kernel_rfl) HS2.out.drewS ?_;clear HS2;simp only [List.size_toArray,List.length_cons,List.length_nil,Nat.reduceAdd,Array.replicate_succ,Array.replicate_zero,List.push_toArray,List.nil_append,List.cons_append];refine AnyM.next (m:=13) (i:=0) (d:=some 31) (v:=.pointer (some ⟨w.heap.size+1,0,none⟩)) rfl rfl (by kernel_rfl) (by kernel_rfl) (by kernel_rfl) (by kernel_rfl) (StepsIf.yield (by kernel_rfl) (fun w' hS=>by clear hS;go_simp)) ?_;intro a' ha';simp only [Act.put,List.setIfInBounds_toArray,List.set_cons_zero,List.set_cons_succ] at ha';subst ha';refine AnyM.next (m:=13) (i:=1) (d:=some 32) (v:=.int .i64 v) rfl rfl (by kernel_rfl) (by kernel_rfl) (by kernel_rfl) (by kernel_rfl) (StepsIf.yield (by kernel_rfl) (fun w' hS=>by have c0:=hS.1.2.cell 0;have c1:=hS.1.2.cell 1;simp only [List.getElem?_toArray,List.getElem?_cons_zero,List.getElem?_cons_succ] at c0 c1;clear hS;go_simp)) ?_;intro a' ha';simp only [Act.put,List.setIfInBounds_toArray,List.set_cons_zero,List.set_cons_succ] at ha';subst ha';refine AnyM.next (m:=13) (i:=2) (d:=some 33) (v:=.int .i64 (10*v)) rfl rfl (by kernel_rfl) (by kernel_rfl) (by kernel_rfl) (by kernel_rfl) (StepsIf.yield (by kernel_rfl) (fun w' hS=>by clear hS;go_simp)) ?_;intro a' ha';simp only [Act.put,List.setIfInBounds_toArray,List.set_cons_zero,List.set_cons_succ] at ha';subst ha';refine AnyM.next (m:=13) (i:=3) (d:=some 34) (v:=.string s) rfl rfl (by kernel_rfl) (by kernel_rfl) (by kernel_rfl) (by kernel_rfl) (StepsIf.yield (by kernel_rfl) (fun w' hS=>by clear hS;go_simp)) ?_;intro a' ha';simp only [Act.put,List.setIfInBounds_toArray,List.set_cons_zero,List.set_cons_succ] at ha';subst ha';refine AnyM.next (m:=13) (i:=4) (d:=some 35) (v:=.int .i64 i) rfl rfl (by kernel_rfl) (by kernel_rfl) (by kernel_rfl) (by kernel_rfl) (StepsIf.yield (by kernel_rfl) (fun w' hS=>by clear hS;go_simp)) ?_;intro a' ha';simp only [Act.put,List.setIfInBounds_toArray,List.set_cons_zero,List.set_cons_succ] at ha';subst ha';refine AnyM.next (m:=13) (i:=5) (d:=some 36) (v:=.int .u8 b) rfl rfl (by kernel_rfl) (by kernel_rfl) (by kernel_rfl) (by kernel_rfl) (StepsIf.yield (by kernel_rfl) (fun w' hS=>by clear hS;go_simp)) ?_;intro a' ha';simp only [Act.put,List.setIfInBounds_toArray,List.set_cons_zero,List.set_cons_succ] at ha';subst ha';refine AnyM.next (m:=13) (i:=6) (d:=some 37) (v:=.int .u8 ((b:Int) - 48)) rfl rfl (by kernel_rfl) (by kernel_rfl) (by kernel_rfl) (by kernel_rfl) (StepsIf.yield (by kernel_rfl) (fun w' hS=>by clear hS;go_simp)) ?_;intro a' ha';simp only [Act.put,List.setIfInBounds_toArray,List.set_cons_zero,List.set_cons_succ] at ha';subst ha';refine AnyM.next (m:=13) (i:=7) (d:=some 38) (v:=.int .i64 ((b:Int) - 48)) rfl rfl (by kernel_rfl) (by kernel_rfl) (by kernel_rfl) (by kernel_rfl) (StepsIf.yield (by kernel_rfl) (fun w' hS=>by clear hS;go_simp)) ?_;intro a' ha';simp only [Act.put,List.setIfInBounds_toArray,List.set_cons_zero,List.set_cons_succ] at ha';subst ha';refine AnyM.next (m:=13) (i:=8) (d:=some 39) (v:=.int .i64 V) rfl rfl (by kernel_rfl) (by kernel_rfl) (by kernel_rfl) (by kernel_rfl) (StepsIf.yield (by kernel_rfl) (fun w' hS=>by clear hS;go_simp)) ?_;intro a' ha';simp only [Act.put,List.setIfInBounds_toArray,List.set_cons_zero,List.set_cons_succ] at ha';subst ha';refine AnyM.next (m:=13) (i:=9) (d:=some 40) (v:=.pointer (some ⟨w.heap.size+1,1,none⟩)) rfl rfl (by kernel_rfl) (by kernel_rfl) (by kernel_rfl) (by kernel_rfl) (StepsIf.yield (by kernel_rfl) (fun w' hS=>by clear hS;go_simp)) ?_;intro a' ha';simp only [Act.put,List.setIfInBounds_toArray,List.set_cons_zero,List.set_cons_succ] at ha';subst ha';refine AnyM.next (m:=13) (i:=10) (d:=some 41) (v:=.int .i64 d) rfl rfl (by kernel_rfl) (by kernel_rfl) (by kernel_rfl) (by kernel_rfl) (StepsIf.yield (by kernel_rfl) (fun w' hS=>by have c0:=hS.1.2.cell 0;have c1:=hS.1.2.cell 1;simp only [List.getElem?_toArray,List.getElem?_cons_zero,List.getElem?_cons_succ] at c0 c1;clear hS;go_simp)) ?_;intro a' ha';simp only [Act.put,List.setIfInBounds_toArray,List.set_cons_zero,List.set_cons_succ] at ha';subst ha';refine AnyM.next (m:=13) (i:=11) (d:=some 42) (v:=.int .i64 D) rfl rfl (by kernel_rfl) (by kernel_rfl) (by kernel_rfl) (by kernel_rfl) (StepsIf.yield (by kernel_rfl) (fun w' hS=>by clear hS;go_simp)) ?_;intro a' ha';simp only [Act.put,List.setIfInBounds_toArray,List.set_cons_zero,List.set_cons_succ] at ha';subst ha';refine AnyM.next (m:=13) (i:=12) (d:=some 43) (v:=.agg (nuI V D)) rfl rfl (by kernel_rfl) (by kernel_rfl) (by kernel_rfl) (by kernel_rfl) (StepsIf.yield (by kernel_rfl) (fun w' hS=>by clear hS;go_simp)) ?_;intro a' ha';simp only [Act.put,List.setIfInBounds_toArray,List.set_cons_zero,List.set_cons_succ] at ha';subst ha';refine AnyM.last rfl (by kernel_rfl) (by kernel_rfl) (by kernel_rfl) (fun w3 hS K hK=>?_);have c0:=hS.1.2.cell 0;have c1:=hS.1.2.cell 1;have f0:=hS.1.2.frozen 0;have f1:=hS.1.2.frozen 1;simp only [List.getElem?_toArray,List.getElem?_cons_zero,List.getElem?_cons_succ] at c0 c1;have HS:=Lib.hid (SDi.set (v':=V) (d':=D) hS);clear hS
     go_simp
     refine hK _ _ ?_;clear hK K c0 c1 f0 f1;generalize (w3.setCell ⟨w.heap.size+1,0,none⟩ (.int .i64 V)).setCell ⟨w.heap.size+1,1,none⟩ (.int .i64 D)=w4 at*;have c0:=HS.out.1.2.cell 0;have c1:=HS.out.1.2.cell 1;simp only [List.getElem?_toArray,List.getElem?_cons_zero,List.getElem?_cons_succ] at c0 c1
     go_wp2_with fail
     refine (HM.out _).mono ?_;rintro e w5 ⟨rfl,hb5⟩;have HS2:=Lib.hid (HS.out.keep hb5);clear HS hb5 HM c0 c1;generalize mostD V D=M at*
     by_cases hm:M<least
     ·have q:decide (M<least)=true:=by simpa using hm
      have hR:=HRES.out;rw [if_pos hm] at hR;subst hR;clear HRES hm
      go_wp2_with ((with_reducible refine wpList_store_st (o:=⟨none,.store 219 _ _,_,_,_,_⟩) rfl 219 _ _ rfl w.heap.size rfl rfl (run_storeAt_row _ w.heap.size 219 219 (nuI 0 0) (nuI 0 0) ?_ ?_ ?_ ?_) ?_);exact HS2.out.1.1;exact infoNu;rfl;exact nu_one _ _)
      have hG:=Blk.setRow (cs:=nuI 0 0) HS2.out.1.1;have e0:=hG.cell 0;have e1:=hG.cell 1;simp only [List.getElem?_toArray,List.getElem?_cons_zero,List.getElem?_cons_succ] at e0 e1;exact bodyPost_ret (v:=.tuple #[.agg (nuI 0 0),.int .i64 ((i:Int)+1),.int .i64 6]) (by simp [results,Tryz.results179,go_sem,e0,e1]) rfl ⟨rfl,below_row HS2.out.2 (Nat.le_refl _) _⟩
     ·have q:decide (M<least)=false:=by simpa using hm
      have hR:=HRES.out;rw [if_neg hm] at hR;clear HRES hm;have HR:=Lib.hid hR;clear hR
      go_wp2_with fail
      go_roundw
      case rel=>exact ⟨V,D,i+1,HI.out,by omega,by simp,HR.out,HS2.out⟩
      case measure=>simp [intOf];omega
   ·rw [if_neg hd] at hres
    subst hres
    by_cases hd1:48≤b
    ·have q1:decide ((48:Int)≤(b:Int))=true:=by rw [decide_eq_true_eq];omega
     have q2:decide ((b:Int)≤57)=false:=by rw [decide_eq_false_iff_not];omega
     clear hd;have HS2:=Lib.hid hS;have c0:=hS.1.2.cell 0;have c1:=hS.1.2.cell 1;simp only [List.getElem?_toArray,List.getElem?_cons_zero,List.getElem?_cons_succ] at c0 c1;clear hS i1 i2 i3 i4
     go_wp2_with ((with_reducible refine wpList_store_st (o:=⟨none,.store 219 _ _,_,_,_,_⟩) rfl 219 _ _ rfl w.heap.size rfl rfl (run_storeAt_row _ w.heap.size 219 219 (nuI 0 0) (nuI v d) ?_ ?_ ?_ ?_) ?_);exact HS2.out.1.1;exact infoNu;rfl;exact nu_one _ _)
     have hG:=Blk.setRow (cs:=nuI v d) HS2.out.1.1;have e0:=hG.cell 0;have e1:=hG.cell 1;simp only [List.getElem?_toArray,List.getElem?_cons_zero,List.getElem?_cons_succ] at e0 e1;exact bodyPost_ret (v:=.tuple #[.agg (nuI v d),.int .i64 (i:Int),.int .i64 0]) (by simp [results,Tryz.results179,go_sem,e0,e1]) rfl ⟨rfl,below_row HS2.out.2 (Nat.le_refl _) _⟩
    ·have q1:decide ((48:Int)≤(b:Int))=false:=by rw [decide_eq_false_iff_not];omega
     clear hd;have HS2:=Lib.hid hS;have c0:=hS.1.2.cell 0;have c1:=hS.1.2.cell 1;simp only [List.getElem?_toArray,List.getElem?_cons_zero,List.getElem?_cons_succ] at c0 c1;clear hS i1 i2 i3 i4
     go_wp2_with ((with_reducible refine wpList_store_st (o:=⟨none,.store 219 _ _,_,_,_,_⟩) rfl 219 _ _ rfl w.heap.size rfl rfl (run_storeAt_row _ w.heap.size 219 219 (nuI 0 0) (nuI v d) ?_ ?_ ?_ ?_) ?_);exact HS2.out.1.1;exact infoNu;rfl;exact nu_one _ _)
     have hG:=Blk.setRow (cs:=nuI v d) HS2.out.1.1;have e0:=hG.cell 0;have e1:=hG.cell 1;simp only [List.getElem?_toArray,List.getElem?_cons_zero,List.getElem?_cons_succ] at e0 e1;exact bodyPost_ret (v:=.tuple #[.agg (nuI v d),.int .i64 (i:Int),.int .i64 0]) (by simp [results,Tryz.results179,go_sem,e0,e1]) rfl ⟨rfl,below_row HS2.out.2 (Nat.le_refl _) _⟩
  ·obtain rfl:i=s.size:=by omega
   rw [Nat.sub_self] at hres;have hres:(v,d,s.size,0)=R:=hres;subst hres;have HS2:=Lib.hid hS;have c0:=hS.1.2.cell 0;have c1:=hS.1.2.cell 1;simp only [List.getElem?_toArray,List.getElem?_cons_zero,List.getElem?_cons_succ] at c0 c1;clear hS i1 i2 i3 i4
   go_wp2_with ((with_reducible refine wpList_store_st (o:=⟨none,.store 219 _ _,_,_,_,_⟩) rfl 219 _ _ rfl w.heap.size rfl rfl (run_storeAt_row _ w.heap.size 219 219 (nuI 0 0) (nuI v d) ?_ ?_ ?_ ?_) ?_);exact HS2.out.1.1;exact infoNu;rfl;exact nu_one _ _)
   have hG:=Blk.setRow (cs:=nuI v d) HS2.out.1.1;have e0:=hG.cell 0;have e1:=hG.cell 1;simp only [List.getElem?_toArray,List.getElem?_cons_zero,List.getElem?_cons_succ] at e0 e1;exact bodyPost_ret (v:=.tuple #[.agg (nuI v d),.int .i64 (s.size:Int),.int .i64 0]) (by simp [results,Tryz.results179,go_sem,e0,e1]) rfl ⟨rfl,below_row HS2.out.2 (Nat.le_refl _) _⟩
end Go.Proofs.YtbccojjcdcighaaGreatDoor

namespace Go.Proofs.YtbccojjcdcighaaGreatDoor
open Go.RowKit
theorem invD_start:InvD 0 0:=⟨by omega,fun _=>rfl,fun _=>by omega,by omega⟩
theorem invD_step (v d b:Nat) (h:InvD v d) (hb:48≤b∧b≤57) (hf:fullD v d=false):InvD (10*v+(b - 48)) (d+1):=by
 obtain ⟨i1,i2,i3,i4⟩:=h;have h2:¬(d=2):=by rintro rfl;simp [fullD] at hf
 have hv9:v≤9:=i3 (by omega);refine ⟨by omega,fun h=>by omega,fun h=>?_,by omega⟩;have:=i2 (by omega)
 omega
def EndD (s:ByteArray) (least i:Nat) (r:Nat×Nat×Nat×Nat):Prop:=
 (r.2.2.2=0∧i≤r.2.2.1∧r.2.2.1≤s.size∧InvD r.1 r.2.1∧(r.2.2.1=s.size∨¬(48≤bt s r.2.2.1∧bt s r.2.2.1≤57))∧(0<r.2.1→least≤mostD r.1 r.2.1))∨
 (∃p,r=(0,0,p,6)∧i<p∧p≤s.size)
theorem digD_end (s:ByteArray) (least a:Nat):∀k i v d,InvD v d→a≤i→k+i=s.size→(0<d→least≤mostD v d)→EndD s least a (digD s least k i v d)
 |0,i,v,d,h,ha,hk,hm=>.inl ⟨rfl,ha,by simp only [digD];omega,h,.inl (by simp only [digD];omega),hm⟩
 |k+1,i,v,d,h,ha,hk,hm=>by
  rw [digD]
  by_cases hd:48≤bt s i∧bt s i≤57
  ·rw [if_pos hd]
   cases hf:fullD v d with
   |true=>rw [if_pos rfl];exact .inr ⟨i+1,rfl,by omega,by omega⟩
   |false=>
    rw [if_neg (by decide)]
    by_cases hl:mostD (10*v+(bt s i - 48)) (d+1)<least
    ·rw [if_pos hl];exact .inr ⟨i+1,rfl,by omega,by omega⟩
    ·rw [if_neg hl];exact digD_end s least a k (i+1) _ _ (invD_step v d _ h hd hf) (by omega) (by omega) (fun _=>by omega)
  ·rw [if_neg hd];exact .inl ⟨rfl,ha,by simp only;omega,h,.inr hd,hm⟩
theorem digsD_end (s:ByteArray) (i least:Nat) (hi:i≤s.size):EndD s least i (digsD s i least):=digD_end s least i _ i 0 0 invD_start (Nat.le_refl _) (by omega) (fun h=>by omega)
set_option maxRecDepth 100000 in
set_option maxHeartbeats 16000000 in
theorem commaD_calls (s:ByteArray) (hs:s.size≤1000000) (i n:Nat) (hi:i≤s.size) (w:World):
 Calls Tryz.prog 181 #[.string s,.int .i64 i,.int .i64 n] w fun en w'=>en=.returned (.agg (rdA (commaD s i n)))∧Below w.heap.size w w':=by
 have HR:=Lib.hid (Blk.new w (rdI 0 0 0 eT 0) 215);have HB:Hid (Below w.heap.size w (w.alloc (.cells (rdI 0 0 0 eT 0) 215))):=Lib.hid (by go_grown);have hz:w.heap.size+1≤(w.alloc (.cells (rdI 0 0 0 eT 0) 215)).heap.size:=by simp
 have HD:=Lib.hid (digsD_calls s hs i n hi);have hE:=digsD_end s i n hi;have hg:commaD s i n=commaD s i n:=rfl
 conv at hg=>rhs;unfold commaD
 generalize digsD s i n=X at*;obtain ⟨v,d,p,e⟩:=X;simp only at hg hE;generalize commaD s i n=Y at*;replace HD:Hid (∀w,Calls Tryz.prog 179 #[.string s,.int .i64 i,.int .i64 n] w fun en w'=>en=.returned (.tuple #[.agg (nuI v d),.int .i64 p,.int .i64 e])∧Below w.heap.size w w'):=HD;have hp:p≤s.size:=by
  rcases hE with ⟨_,_,h,_⟩|⟨q,h,_,h2⟩
  ·exact h
  ·cases h;exact h2
 have hv:v≤99:=by
  rcases hE with ⟨_,_,_,h,_⟩|⟨q,h,_,h2⟩
  ·exact h.2.2.2
  ·cases h;omega
 clear hE;go_enter Tryz.func181,Tryz.ntmps181
 go_upto_region 1 with fail
 have e0:w.alloc (.cells #[.int .i64 0,.int .i64 0,.int .i64 0,.string ⟨#[]⟩,.int .i64 0] 215)=w.alloc (.cells (rdI 0 0 0 eT 0) 215):=rfl
 try rw [e0]
 clear e0;generalize w.alloc (.cells (rdI 0 0 0 eT 0) 215)=w1 at*
 go_wp2_with fail
 refine (HD.out _).mono ?_;rintro en w2 ⟨rfl,hb⟩;have HR2:=Lib.hid (HR.out.below hb (Blk.lt HR.out));have HB2:=Lib.hid (HB.out.trans (hb.mono (by omega)));have hz2:=Nat.le_trans hz hb.size;clear HR HB hz hb;have HR:=HR2;have HB:=HB2;have hz:=hz2;clear HR2 HB2 hz2;clear HD
 go_upto_region 2 with fail
 have HP:=Lib.hid (Blk.new w2 (nuI v d) 219);replace HR:=Lib.hid (HR.out.alloc (.cells (nuI v d) 219));replace HB:=Lib.hid (HB.out.alloc (by omega) (.cells (nuI v d) 219));have hz2:w.heap.size+1≤(w2.alloc (.cells (nuI v d) 219)).heap.size:=by simp;omega
 clear hz;have hz:=hz2;clear hz2;generalize w2.alloc (.cells (nuI v d) 219)=w3 at*;generalize w2.heap.size=B at*;have c0:=HP.out.cell 0;have c1:=HP.out.cell 1;simp only [List.getElem?_toArray,List.getElem?_cons_zero,List.getElem?_cons_succ] at c0 c1;clear HP;have HG:=Lib.hid hg;clear hg
 by_cases hd:0<d
 ·by_cases hv2:v<n
  ·have hxx:=hd
   have hls:lessD v d n=true:=by simp [lessD,hd,hv2]
   rw [hls] at HG;clear hls;have qd:decide (0<d)=true:=by simpa using hd
   have qv:decide (v<n)=true:=by simpa using hv2
   by_cases he:e=0
   ·subst he
    have hG:=HG.out;rw [if_neg (show¬((0:Nat)≠0) from fun h=>h rfl)] at hG;replace HG:=Lib.hid hG;clear hG
    by_cases hps:p=s.size
    ·subst hps
     have HRES:=Lib.hid (show Y=shortR s [57,125] by rw [HG.out,if_pos ⟨rfl,rfl⟩]);clear HG;have HFA:=Lib.hid (shortR_calls s ⟨#[57,125]⟩)
     go_wp2_with fail
     refine (HFA.out _).mono ?_;rintro en w4 ⟨rfl,hb⟩;have HR2:=Lib.hid (HR.out.below hb (Blk.lt HR.out));have HB2:=Lib.hid (HB.out.trans (hb.mono (by omega)));have hz2:=Nat.le_trans hz hb.size;clear HR HB hz hb;have HR:=HR2;have HB:=HB2;have hz:=hz2;clear HR2 HB2 hz2
     go_wp2_with ((with_reducible refine wpList_store_st (o:=⟨none,.store 215 _ _,_,_,_,_⟩) rfl 215 _ _ rfl w.heap.size rfl rfl (run_storeAt_row _ w.heap.size 215 215 (rdI 0 0 0 eT 0) (rdI 0 0 s.size ⟨#[57,125]⟩ 2) ?_ ?_ ?_ ?_) ?_);exact HR.out;exact infoRd;rfl;exact rdC_one _ _ _ _ _)
     exact bodyPost_ret (v:=.agg (rdI 0 0 s.size ⟨#[57,125]⟩ 2)) (results_cell_row rfl _ _ w.heap.size 215 (rdI 0 0 s.size ⟨#[57,125]⟩ 2) (0,0) _ rfl (Blk.setRow HR.out) Tryz.underlying215 rfl infoRd) rfl ⟨by rw [HRES.out]<;>rfl,below_row HB.out (by omega) _⟩
    have hlt:p<s.size:=by omega
    have qp:((p:Int)==(s.size:Int))=false:=by rw [beq_eq_false_iff_ne];omega
    have b0:s[p].toNat=bt s p:=(bt_eq s p hlt).symm;generalize bt s p=b at*;have hG:=HG.out;rw [if_neg (fun h=>hps h.1),if_neg hps] at hG;replace HG:=Lib.hid hG;clear hG hps
    by_cases hb125:b=125
    ·subst hb125
     have HRES:=Lib.hid (show Y=badC 6 (p+1) by rw [HG.out,if_neg (fun h=>h rfl),if_pos rfl]);clear HG;have HFA:=Lib.hid (faultD_calls 6 ((p:Int)+1))
     go_wp2_with fail
     refine (HFA.out _).mono ?_;rintro en w4 ⟨rfl,hb⟩;have HR2:=Lib.hid (HR.out.below hb (Blk.lt HR.out));have HB2:=Lib.hid (HB.out.trans (hb.mono (by omega)));have hz2:=Nat.le_trans hz hb.size;clear HR HB hz hb;have HR:=HR2;have HB:=HB2;have hz:=hz2;clear HR2 HB2 hz2
     go_wp2_with ((with_reducible refine wpList_store_st (o:=⟨none,.store 215 _ _,_,_,_,_⟩) rfl 215 _ _ rfl w.heap.size rfl rfl (run_storeAt_row _ w.heap.size 215 215 (rdI 0 0 0 eT 0) (rdI 0 0 ((p:Int)+1) eT 6) ?_ ?_ ?_ ?_) ?_);exact HR.out;exact infoRd;rfl;exact rdC_one _ _ _ _ _)
     exact bodyPost_ret (v:=.agg (rdI 0 0 ((p:Int)+1) eT 6)) (results_cell_row rfl _ _ w.heap.size 215 (rdI 0 0 ((p:Int)+1) eT 6) (0,0) _ rfl (Blk.setRow HR.out) Tryz.underlying215 rfl infoRd) rfl ⟨by rw [HRES.out]<;>rfl,below_row HB.out (by omega) _⟩
    ·have qb:((b:Int) !=125)=true:=by rw [bne_iff_ne];omega
     have HRES:=Lib.hid (show Y=badC 3 (p+1) by rw [HG.out,if_pos hb125]);clear HG;have HFA:=Lib.hid (faultD_calls 3 ((p:Int)+1))
     go_wp2_with fail
     refine (HFA.out _).mono ?_;rintro en w4 ⟨rfl,hb⟩;have HR2:=Lib.hid (HR.out.below hb (Blk.lt HR.out));have HB2:=Lib.hid (HB.out.trans (hb.mono (by omega)));have hz2:=Nat.le_trans hz hb.size;clear HR HB hz hb;have HR:=HR2;have HB:=HB2;have hz:=hz2;clear HR2 HB2 hz2
     go_wp2_with ((with_reducible refine wpList_store_st (o:=⟨none,.store 215 _ _,_,_,_,_⟩) rfl 215 _ _ rfl w.heap.size rfl rfl (run_storeAt_row _ w.heap.size 215 215 (rdI 0 0 0 eT 0) (rdI 0 0 ((p:Int)+1) eT 3) ?_ ?_ ?_ ?_) ?_);exact HR.out;exact infoRd;rfl;exact rdC_one _ _ _ _ _)
     exact bodyPost_ret (v:=.agg (rdI 0 0 ((p:Int)+1) eT 3)) (results_cell_row rfl _ _ w.heap.size 215 (rdI 0 0 ((p:Int)+1) eT 3) (0,0) _ rfl (Blk.setRow HR.out) Tryz.underlying215 rfl infoRd) rfl ⟨by rw [HRES.out]<;>rfl,below_row HB.out (by omega) _⟩
   ·have qe:((e:Int) !=0)=true:=by rw [bne_iff_ne];omega
    have HRES:=Lib.hid (show Y=badC e p by rw [HG.out,if_pos he]);clear HG;have HFA:=Lib.hid (faultD_calls e p)
    go_wp2_with fail
    refine (HFA.out _).mono ?_;rintro en w4 ⟨rfl,hb⟩;have HR2:=Lib.hid (HR.out.below hb (Blk.lt HR.out));have HB2:=Lib.hid (HB.out.trans (hb.mono (by omega)));have hz2:=Nat.le_trans hz hb.size;clear HR HB hz hb;have HR:=HR2;have HB:=HB2;have hz:=hz2;clear HR2 HB2 hz2
    go_wp2_with ((with_reducible refine wpList_store_st (o:=⟨none,.store 215 _ _,_,_,_,_⟩) rfl 215 _ _ rfl w.heap.size rfl rfl (run_storeAt_row _ w.heap.size 215 215 (rdI 0 0 0 eT 0) (rdI 0 0 p eT e) ?_ ?_ ?_ ?_) ?_);exact HR.out;exact infoRd;rfl;exact rdC_one _ _ _ _ _)
    exact bodyPost_ret (v:=.agg (rdI 0 0 p eT e)) (results_cell_row rfl _ _ w.heap.size 215 (rdI 0 0 p eT e) (0,0) _ rfl (Blk.setRow HR.out) Tryz.underlying215 rfl infoRd) rfl ⟨by rw [HRES.out]<;>rfl,below_row HB.out (by omega) _⟩
  ·have hxx:=hd
   have hls:lessD v d n=false:=by simp [lessD,hd,hv2]
   rw [hls] at HG;clear hls;have qd:decide (0<d)=true:=by simpa using hd
   have qv:decide (v<n)=false:=by simpa using hv2
   by_cases he:e=0
   ·subst he
    have hG:=HG.out;rw [if_neg (show¬((0:Nat)≠0) from fun h=>h rfl)] at hG;replace HG:=Lib.hid hG;clear hG
    by_cases hps:p=s.size
    ·subst hps
     have HRES:=Lib.hid (show Y=shortR s [125] by rw [HG.out,if_neg (fun h=>by cases h.2),if_pos rfl]);clear HG;have HFA:=Lib.hid (shortR_calls s ⟨#[125]⟩)
     go_wp2_with fail
     refine (HFA.out _).mono ?_;rintro en w4 ⟨rfl,hb⟩;have HR2:=Lib.hid (HR.out.below hb (Blk.lt HR.out));have HB2:=Lib.hid (HB.out.trans (hb.mono (by omega)));have hz2:=Nat.le_trans hz hb.size;clear HR HB hz hb;have HR:=HR2;have HB:=HB2;have hz:=hz2;clear HR2 HB2 hz2
     go_wp2_with ((with_reducible refine wpList_store_st (o:=⟨none,.store 215 _ _,_,_,_,_⟩) rfl 215 _ _ rfl w.heap.size rfl rfl (run_storeAt_row _ w.heap.size 215 215 (rdI 0 0 0 eT 0) (rdI 0 0 s.size ⟨#[125]⟩ 2) ?_ ?_ ?_ ?_) ?_);exact HR.out;exact infoRd;rfl;exact rdC_one _ _ _ _ _)
     exact bodyPost_ret (v:=.agg (rdI 0 0 s.size ⟨#[125]⟩ 2)) (results_cell_row rfl _ _ w.heap.size 215 (rdI 0 0 s.size ⟨#[125]⟩ 2) (0,0) _ rfl (Blk.setRow HR.out) Tryz.underlying215 rfl infoRd) rfl ⟨by rw [HRES.out]<;>rfl,below_row HB.out (by omega) _⟩
    have hlt:p<s.size:=by omega
    have qp:((p:Int)==(s.size:Int))=false:=by rw [beq_eq_false_iff_ne];omega
    have b0:s[p].toNat=bt s p:=(bt_eq s p hlt).symm;generalize bt s p=b at*;have hG:=HG.out;rw [if_neg (fun h=>hps h.1),if_neg hps] at hG;replace HG:=Lib.hid hG;clear hG hps
    by_cases hb125:b=125
    ·subst hb125
     have qz:((d:Int)==0)=false:=by rw [beq_eq_false_iff_ne];omega
     have HRES:=Lib.hid (show Y=okR n v (p+1) by rw [HG.out,if_neg (fun h=>h rfl),if_neg (by decide),if_neg (by omega)]);clear HG
     go_wp2_with ((with_reducible refine wpList_store_st (o:=⟨none,.store 215 _ _,_,_,_,_⟩) rfl 215 _ _ rfl w.heap.size rfl rfl (run_storeAt_row _ w.heap.size 215 215 (rdI 0 0 0 eT 0) (rdI n v ((p:Int)+1) eT 0) ?_ ?_ ?_ ?_) ?_);exact HR.out;exact infoRd;rfl;exact rdC_one _ _ _ _ _)
     exact bodyPost_ret (v:=.agg (rdI n v ((p:Int)+1) eT 0)) (results_cell_row rfl _ _ w.heap.size 215 (rdI n v ((p:Int)+1) eT 0) (0,0) _ rfl (Blk.setRow HR.out) Tryz.underlying215 rfl infoRd) rfl ⟨by rw [HRES.out]<;>rfl,below_row HB.out (by omega) _⟩
    ·have qb:((b:Int) !=125)=true:=by rw [bne_iff_ne];omega
     have HRES:=Lib.hid (show Y=badC 3 (p+1) by rw [HG.out,if_pos hb125]);clear HG;have HFA:=Lib.hid (faultD_calls 3 ((p:Int)+1))
     go_wp2_with fail
     refine (HFA.out _).mono ?_;rintro en w4 ⟨rfl,hb⟩;have HR2:=Lib.hid (HR.out.below hb (Blk.lt HR.out));have HB2:=Lib.hid (HB.out.trans (hb.mono (by omega)));have hz2:=Nat.le_trans hz hb.size;clear HR HB hz hb;have HR:=HR2;have HB:=HB2;have hz:=hz2;clear HR2 HB2 hz2
     go_wp2_with ((with_reducible refine wpList_store_st (o:=⟨none,.store 215 _ _,_,_,_,_⟩) rfl 215 _ _ rfl w.heap.size rfl rfl (run_storeAt_row _ w.heap.size 215 215 (rdI 0 0 0 eT 0) (rdI 0 0 ((p:Int)+1) eT 3) ?_ ?_ ?_ ?_) ?_);exact HR.out;exact infoRd;rfl;exact rdC_one _ _ _ _ _)
     exact bodyPost_ret (v:=.agg (rdI 0 0 ((p:Int)+1) eT 3)) (results_cell_row rfl _ _ w.heap.size 215 (rdI 0 0 ((p:Int)+1) eT 3) (0,0) _ rfl (Blk.setRow HR.out) Tryz.underlying215 rfl infoRd) rfl ⟨by rw [HRES.out]<;>rfl,below_row HB.out (by omega) _⟩
   ·have qe:((e:Int) !=0)=true:=by rw [bne_iff_ne];omega
    have HRES:=Lib.hid (show Y=badC e p by rw [HG.out,if_pos he]);clear HG;have HFA:=Lib.hid (faultD_calls e p)
    go_wp2_with fail
    refine (HFA.out _).mono ?_;rintro en w4 ⟨rfl,hb⟩;have HR2:=Lib.hid (HR.out.below hb (Blk.lt HR.out));have HB2:=Lib.hid (HB.out.trans (hb.mono (by omega)));have hz2:=Nat.le_trans hz hb.size;clear HR HB hz hb;have HR:=HR2;have HB:=HB2;have hz:=hz2;clear HR2 HB2 hz2
    go_wp2_with ((with_reducible refine wpList_store_st (o:=⟨none,.store 215 _ _,_,_,_,_⟩) rfl 215 _ _ rfl w.heap.size rfl rfl (run_storeAt_row _ w.heap.size 215 215 (rdI 0 0 0 eT 0) (rdI 0 0 p eT e) ?_ ?_ ?_ ?_) ?_);exact HR.out;exact infoRd;rfl;exact rdC_one _ _ _ _ _)
    exact bodyPost_ret (v:=.agg (rdI 0 0 p eT e)) (results_cell_row rfl _ _ w.heap.size 215 (rdI 0 0 p eT e) (0,0) _ rfl (Blk.setRow HR.out) Tryz.underlying215 rfl infoRd) rfl ⟨by rw [HRES.out]<;>rfl,below_row HB.out (by omega) _⟩
 ·have hxx:=hd
  have hls:lessD v d n=false:=by simp [lessD,hd]
  rw [hls] at HG;clear hls;obtain rfl:d=0:=by omega
  by_cases he:e=0
  ·subst he
   have hG:=HG.out;rw [if_neg (show¬((0:Nat)≠0) from fun h=>h rfl)] at hG;replace HG:=Lib.hid hG;clear hG
   by_cases hps:p=s.size
   ·subst hps
    have HRES:=Lib.hid (show Y=shortR s [125] by rw [HG.out,if_neg (fun h=>by cases h.2),if_pos rfl]);clear HG;have HFA:=Lib.hid (shortR_calls s ⟨#[125]⟩)
    go_wp2_with fail
    refine (HFA.out _).mono ?_;rintro en w4 ⟨rfl,hb⟩;have HR2:=Lib.hid (HR.out.below hb (Blk.lt HR.out));have HB2:=Lib.hid (HB.out.trans (hb.mono (by omega)));have hz2:=Nat.le_trans hz hb.size;clear HR HB hz hb;have HR:=HR2;have HB:=HB2;have hz:=hz2;clear HR2 HB2 hz2
    go_wp2_with ((with_reducible refine wpList_store_st (o:=⟨none,.store 215 _ _,_,_,_,_⟩) rfl 215 _ _ rfl w.heap.size rfl rfl (run_storeAt_row _ w.heap.size 215 215 (rdI 0 0 0 eT 0) (rdI 0 0 s.size ⟨#[125]⟩ 2) ?_ ?_ ?_ ?_) ?_);exact HR.out;exact infoRd;rfl;exact rdC_one _ _ _ _ _)
    exact bodyPost_ret (v:=.agg (rdI 0 0 s.size ⟨#[125]⟩ 2)) (results_cell_row rfl _ _ w.heap.size 215 (rdI 0 0 s.size ⟨#[125]⟩ 2) (0,0) _ rfl (Blk.setRow HR.out) Tryz.underlying215 rfl infoRd) rfl ⟨by rw [HRES.out]<;>rfl,below_row HB.out (by omega) _⟩
   have hlt:p<s.size:=by omega
   have qp:((p:Int)==(s.size:Int))=false:=by rw [beq_eq_false_iff_ne];omega
   have b0:s[p].toNat=bt s p:=(bt_eq s p hlt).symm;generalize bt s p=b at*;have hG:=HG.out;rw [if_neg (fun h=>hps h.1),if_neg hps] at hG;replace HG:=Lib.hid hG;clear hG hps
   by_cases hb125:b=125
   ·subst hb125
    have HRES:=Lib.hid (show Y=okR n (-1) (p+1) by rw [HG.out,if_neg (fun h=>h rfl),if_neg (by decide),if_pos rfl]);clear HG
    go_wp2_with ((with_reducible refine wpList_store_st (o:=⟨none,.store 215 _ _,_,_,_,_⟩) rfl 215 _ _ rfl w.heap.size rfl rfl (run_storeAt_row _ w.heap.size 215 215 (rdI 0 0 0 eT 0) (rdI n (-1) ((p:Int)+1) eT 0) ?_ ?_ ?_ ?_) ?_);exact HR.out;exact infoRd;rfl;exact rdC_one _ _ _ _ _)
    exact bodyPost_ret (v:=.agg (rdI n (-1) ((p:Int)+1) eT 0)) (results_cell_row rfl _ _ w.heap.size 215 (rdI n (-1) ((p:Int)+1) eT 0) (0,0) _ rfl (Blk.setRow HR.out) Tryz.underlying215 rfl infoRd) rfl ⟨by rw [HRES.out]<;>rfl,below_row HB.out (by omega) _⟩
   ·have qb:((b:Int) !=125)=true:=by rw [bne_iff_ne];omega
    have HRES:=Lib.hid (show Y=badC 3 (p+1) by rw [HG.out,if_pos hb125]);clear HG;have HFA:=Lib.hid (faultD_calls 3 ((p:Int)+1))
    go_wp2_with fail
    refine (HFA.out _).mono ?_;rintro en w4 ⟨rfl,hb⟩;have HR2:=Lib.hid (HR.out.below hb (Blk.lt HR.out));have HB2:=Lib.hid (HB.out.trans (hb.mono (by omega)));have hz2:=Nat.le_trans hz hb.size;clear HR HB hz hb;have HR:=HR2;have HB:=HB2;have hz:=hz2;clear HR2 HB2 hz2
    go_wp2_with ((with_reducible refine wpList_store_st (o:=⟨none,.store 215 _ _,_,_,_,_⟩) rfl 215 _ _ rfl w.heap.size rfl rfl (run_storeAt_row _ w.heap.size 215 215 (rdI 0 0 0 eT 0) (rdI 0 0 ((p:Int)+1) eT 3) ?_ ?_ ?_ ?_) ?_);exact HR.out;exact infoRd;rfl;exact rdC_one _ _ _ _ _)
    exact bodyPost_ret (v:=.agg (rdI 0 0 ((p:Int)+1) eT 3)) (results_cell_row rfl _ _ w.heap.size 215 (rdI 0 0 ((p:Int)+1) eT 3) (0,0) _ rfl (Blk.setRow HR.out) Tryz.underlying215 rfl infoRd) rfl ⟨by rw [HRES.out]<;>rfl,below_row HB.out (by omega) _⟩
  ·have qe:((e:Int) !=0)=true:=by rw [bne_iff_ne];omega
   have HRES:=Lib.hid (show Y=badC e p by rw [HG.out,if_pos he]);clear HG;have HFA:=Lib.hid (faultD_calls e p)
   go_wp2_with fail
   refine (HFA.out _).mono ?_;rintro en w4 ⟨rfl,hb⟩;have HR2:=Lib.hid (HR.out.below hb (Blk.lt HR.out));have HB2:=Lib.hid (HB.out.trans (hb.mono (by omega)));have hz2:=Nat.le_trans hz hb.size;clear HR HB hz hb;have HR:=HR2;have HB:=HB2;have hz:=hz2;clear HR2 HB2 hz2
   go_wp2_with ((with_reducible refine wpList_store_st (o:=⟨none,.store 215 _ _,_,_,_,_⟩) rfl 215 _ _ rfl w.heap.size rfl rfl (run_storeAt_row _ w.heap.size 215 215 (rdI 0 0 0 eT 0) (rdI 0 0 p eT e) ?_ ?_ ?_ ?_) ?_);exact HR.out;exact infoRd;rfl;exact rdC_one _ _ _ _ _)
   exact bodyPost_ret (v:=.agg (rdI 0 0 p eT e)) (results_cell_row rfl _ _ w.heap.size 215 (rdI 0 0 p eT e) (0,0) _ rfl (Blk.setRow HR.out) Tryz.underlying215 rfl infoRd) rfl ⟨by rw [HRES.out]<;>rfl,below_row HB.out (by omega) _⟩
set_option maxRecDepth 100000 in
set_option maxHeartbeats 16000000 in
theorem bracesD_calls (s:ByteArray) (hs:s.size≤1000000) (i:Nat) (hi:i≤s.size) (w:World):
 Calls Tryz.prog 178 #[.string s,.int .i64 i] w fun en w'=>en=.returned (.agg (rdA (bracesD s i)))∧Below w.heap.size w w':=by
 have HR:=Lib.hid (Blk.new w (rdI 0 0 0 eT 0) 215);have HB:Hid (Below w.heap.size w (w.alloc (.cells (rdI 0 0 0 eT 0) 215))):=Lib.hid (by go_grown);have hz:w.heap.size+1≤(w.alloc (.cells (rdI 0 0 0 eT 0) 215)).heap.size:=by simp
 have HD:=Lib.hid (digsD_calls s hs i 0 hi);have hE:=digsD_end s i 0 hi;have hg:bracesD s i=bracesD s i:=rfl
 conv at hg=>rhs;unfold bracesD
 generalize digsD s i 0=X at*;obtain ⟨v,d,p,e⟩:=X;simp only at hg hE;generalize bracesD s i=Y at*;replace HD:Hid (∀w,Calls Tryz.prog 179 #[.string s,.int .i64 i,.int .i64 0] w fun en w'=>en=.returned (.tuple #[.agg (nuI v d),.int .i64 p,.int .i64 e])∧Below w.heap.size w w'):=HD;have hp:p≤s.size:=by
  rcases hE with ⟨_,_,h,_⟩|⟨q,h,_,h2⟩
  ·exact h
  ·cases h;exact h2
 have hv:v≤99:=by
  rcases hE with ⟨_,_,_,h,_⟩|⟨q,h,_,h2⟩
  ·exact h.2.2.2
  ·cases h;omega
 clear hE;go_enter Tryz.func178,Tryz.ntmps178
 go_upto_region 1 with fail
 have e0:w.alloc (.cells #[.int .i64 0,.int .i64 0,.int .i64 0,.string ⟨#[]⟩,.int .i64 0] 215)=w.alloc (.cells (rdI 0 0 0 eT 0) 215):=rfl
 try rw [e0]
 clear e0;generalize w.alloc (.cells (rdI 0 0 0 eT 0) 215)=w1 at*
 go_wp2_with fail
 refine (HD.out _).mono ?_;rintro en w2 ⟨rfl,hb⟩;have HR2:=Lib.hid (HR.out.below hb (Blk.lt HR.out));have HB2:=Lib.hid (HB.out.trans (hb.mono (by omega)));have hz2:=Nat.le_trans hz hb.size;clear HR HB hz hb;have HR:=HR2;have HB:=HB2;have hz:=hz2;clear HR2 HB2 hz2;clear HD
 go_upto_region 2 with fail
 have HP:=Lib.hid (Blk.new w2 (nuI v d) 219);replace HR:=Lib.hid (HR.out.alloc (.cells (nuI v d) 219));replace HB:=Lib.hid (HB.out.alloc (by omega) (.cells (nuI v d) 219));have hz2:w.heap.size+1≤(w2.alloc (.cells (nuI v d) 219)).heap.size:=by simp;omega
 clear hz;have hz:=hz2;clear hz2;generalize w2.alloc (.cells (nuI v d) 219)=w3 at*;generalize w2.heap.size=B at*;have c0:=HP.out.cell 0;have c1:=HP.out.cell 1;simp only [List.getElem?_toArray,List.getElem?_cons_zero,List.getElem?_cons_succ] at c0 c1;clear HP;have HG:=Lib.hid hg;clear hg
 by_cases he:e=0
 ·subst he
  have hG:=HG.out;rw [if_neg (show¬((0:Nat)≠0) from fun h=>h rfl)] at hG;replace HG:=Lib.hid hG;clear hG
  by_cases hd:d=0
  ·subst hd
   by_cases hps:p=s.size
   ·subst hps
    have HRES:=Lib.hid (show Y=shortR s [48,125] by rw [HG.out,if_pos ⟨rfl,rfl⟩]);clear HG;have HFA:=Lib.hid (shortR_calls s ⟨#[48,125]⟩)
    go_wp2_with fail
    refine (HFA.out _).mono ?_;rintro en w4 ⟨rfl,hb⟩;have HR2:=Lib.hid (HR.out.below hb (Blk.lt HR.out));have HB2:=Lib.hid (HB.out.trans (hb.mono (by omega)));have hz2:=Nat.le_trans hz hb.size;clear HR HB hz hb;have HR:=HR2;have HB:=HB2;have hz:=hz2;clear HR2 HB2 hz2
    go_wp2_with ((with_reducible refine wpList_store_st (o:=⟨none,.store 215 _ _,_,_,_,_⟩) rfl 215 _ _ rfl w.heap.size rfl rfl (run_storeAt_row _ w.heap.size 215 215 (rdI 0 0 0 eT 0) (rdI 0 0 s.size ⟨#[48,125]⟩ 2) ?_ ?_ ?_ ?_) ?_);exact HR.out;exact infoRd;rfl;exact rdC_one _ _ _ _ _)
    exact bodyPost_ret (v:=.agg (rdI 0 0 s.size ⟨#[48,125]⟩ 2)) (results_cell_row rfl _ _ w.heap.size 215 (rdI 0 0 s.size ⟨#[48,125]⟩ 2) (0,0) _ rfl (Blk.setRow HR.out) Tryz.underlying215 rfl infoRd) rfl ⟨by rw [HRES.out]<;>rfl,below_row HB.out (by omega) _⟩
   have qp:((p:Int)==(s.size:Int))=false:=by rw [beq_eq_false_iff_ne];omega
   have HRES:=Lib.hid (show Y=badC 3 (p+1) by rw [HG.out,if_neg (fun h=>hps h.1),if_neg hps,if_neg (fun h=>absurd h.1 (by omega)),if_neg (fun h=>absurd h.1 (by omega))]);clear HG;have HFA:=Lib.hid (faultD_calls 3 ((p:Int)+1))
   go_wp2_with fail
   refine (HFA.out _).mono ?_;rintro en w4 ⟨rfl,hb⟩;have HR2:=Lib.hid (HR.out.below hb (Blk.lt HR.out));have HB2:=Lib.hid (HB.out.trans (hb.mono (by omega)));have hz2:=Nat.le_trans hz hb.size;clear HR HB hz hb;have HR:=HR2;have HB:=HB2;have hz:=hz2;clear HR2 HB2 hz2
   go_wp2_with ((with_reducible refine wpList_store_st (o:=⟨none,.store 215 _ _,_,_,_,_⟩) rfl 215 _ _ rfl w.heap.size rfl rfl (run_storeAt_row _ w.heap.size 215 215 (rdI 0 0 0 eT 0) (rdI 0 0 ((p:Int)+1) eT 3) ?_ ?_ ?_ ?_) ?_);exact HR.out;exact infoRd;rfl;exact rdC_one _ _ _ _ _)
   exact bodyPost_ret (v:=.agg (rdI 0 0 ((p:Int)+1) eT 3)) (results_cell_row rfl _ _ w.heap.size 215 (rdI 0 0 ((p:Int)+1) eT 3) (0,0) _ rfl (Blk.setRow HR.out) Tryz.underlying215 rfl infoRd) rfl ⟨by rw [HRES.out]<;>rfl,below_row HB.out (by omega) _⟩
  have qd:decide (0<d)=true:=by rw [decide_eq_true_iff];omega
  have qd0:((d:Int)==0)=false:=by rw [beq_eq_false_iff_ne];omega
  have hd0:0<d:=by omega
  by_cases hps:p=s.size
  ·subst hps
   have HRES:=Lib.hid (show Y=shortR s [125] by rw [HG.out,if_neg (fun h=>hd h.2),if_pos rfl]);clear HG;have HFA:=Lib.hid (shortR_calls s ⟨#[125]⟩)
   go_wp2_with fail
   refine (HFA.out _).mono ?_;rintro en w4 ⟨rfl,hb⟩;have HR2:=Lib.hid (HR.out.below hb (Blk.lt HR.out));have HB2:=Lib.hid (HB.out.trans (hb.mono (by omega)));have hz2:=Nat.le_trans hz hb.size;clear HR HB hz hb;have HR:=HR2;have HB:=HB2;have hz:=hz2;clear HR2 HB2 hz2
   go_wp2_with ((with_reducible refine wpList_store_st (o:=⟨none,.store 215 _ _,_,_,_,_⟩) rfl 215 _ _ rfl w.heap.size rfl rfl (run_storeAt_row _ w.heap.size 215 215 (rdI 0 0 0 eT 0) (rdI 0 0 s.size ⟨#[125]⟩ 2) ?_ ?_ ?_ ?_) ?_);exact HR.out;exact infoRd;rfl;exact rdC_one _ _ _ _ _)
   exact bodyPost_ret (v:=.agg (rdI 0 0 s.size ⟨#[125]⟩ 2)) (results_cell_row rfl _ _ w.heap.size 215 (rdI 0 0 s.size ⟨#[125]⟩ 2) (0,0) _ rfl (Blk.setRow HR.out) Tryz.underlying215 rfl infoRd) rfl ⟨by rw [HRES.out]<;>rfl,below_row HB.out (by omega) _⟩
  have hlt:p<s.size:=by omega
  have qp:((p:Int)==(s.size:Int))=false:=by rw [beq_eq_false_iff_ne];omega
  have b0:s[p].toNat=bt s p:=(bt_eq s p hlt).symm;generalize bt s p=b at*;have hG:=HG.out;rw [if_neg (fun h=>hps h.1),if_neg hps] at hG;replace HG:=Lib.hid hG;clear hG
  by_cases hb125:b=125
  ·subst hb125
   have HRES:=Lib.hid (show Y=okR v v (p+1) by rw [HG.out,if_pos ⟨hd0,rfl⟩]);clear HG
   go_wp2_with ((with_reducible refine wpList_store_st (o:=⟨none,.store 215 _ _,_,_,_,_⟩) rfl 215 _ _ rfl w.heap.size rfl rfl (run_storeAt_row _ w.heap.size 215 215 (rdI 0 0 0 eT 0) (rdI v v ((p:Int)+1) eT 0) ?_ ?_ ?_ ?_) ?_);exact HR.out;exact infoRd;rfl;exact rdC_one _ _ _ _ _)
   exact bodyPost_ret (v:=.agg (rdI v v ((p:Int)+1) eT 0)) (results_cell_row rfl _ _ w.heap.size 215 (rdI v v ((p:Int)+1) eT 0) (0,0) _ rfl (Blk.setRow HR.out) Tryz.underlying215 rfl infoRd) rfl ⟨by rw [HRES.out]<;>rfl,below_row HB.out (by omega) _⟩
  have qb:((b:Int)==125)=false:=by rw [beq_eq_false_iff_ne];omega
  by_cases hb44:b=44
  ·subst hb44
   have hC:=commaD_calls s hs (p+1) v (by omega);have hZ:Y=commaD s (p+1) v:=by rw [HG.out,if_neg (fun h=>absurd h.2 (by decide)),if_pos ⟨hd0,rfl⟩]
   generalize commaD s (p+1) v=Z at*;obtain ⟨zn,zm,zp,zl,ze⟩:=Z;have HRES:=Lib.hid hZ;clear HG hZ;have HFA:Hid (∀w,Calls Tryz.prog 181 #[.string s,.int .i64 ((p:Int)+1),.int .i64 v] w fun en w'=>en=.returned (.agg (rdI zn zm zp (ofT zl) ze))∧Below w.heap.size w w'):=Lib.hid hC;clear hC
   go_wp2_with fail
   refine (HFA.out _).mono ?_;rintro en w4 ⟨rfl,hb⟩;have HR2:=Lib.hid (HR.out.below hb (Blk.lt HR.out));have HB2:=Lib.hid (HB.out.trans (hb.mono (by omega)));have hz2:=Nat.le_trans hz hb.size;clear HR HB hz hb;have HR:=HR2;have HB:=HB2;have hz:=hz2;clear HR2 HB2 hz2
   go_wp2_with ((with_reducible refine wpList_store_st (o:=⟨none,.store 215 _ _,_,_,_,_⟩) rfl 215 _ _ rfl w.heap.size rfl rfl (run_storeAt_row _ w.heap.size 215 215 (rdI 0 0 0 eT 0) (rdI zn zm zp (ofT zl) ze) ?_ ?_ ?_ ?_) ?_);exact HR.out;exact infoRd;rfl;exact rdC_one _ _ _ _ _)
   exact bodyPost_ret (v:=.agg (rdI zn zm zp (ofT zl) ze)) (results_cell_row rfl _ _ w.heap.size 215 (rdI zn zm zp (ofT zl) ze) (0,0) _ rfl (Blk.setRow HR.out) Tryz.underlying215 rfl infoRd) rfl ⟨by rw [HRES.out]<;>rfl,below_row HB.out (by omega) _⟩
  have qc:((b:Int)==44)=false:=by rw [beq_eq_false_iff_ne];omega
  have HRES:=Lib.hid (show Y=badC 3 (p+1) by rw [HG.out,if_neg (fun h=>hb125 h.2),if_neg (fun h=>hb44 h.2)]);clear HG;have HFA:=Lib.hid (faultD_calls 3 ((p:Int)+1))
  go_wp2_with fail
  refine (HFA.out _).mono ?_;rintro en w4 ⟨rfl,hb⟩;have HR2:=Lib.hid (HR.out.below hb (Blk.lt HR.out));have HB2:=Lib.hid (HB.out.trans (hb.mono (by omega)));have hz2:=Nat.le_trans hz hb.size;clear HR HB hz hb;have HR:=HR2;have HB:=HB2;have hz:=hz2;clear HR2 HB2 hz2
  go_wp2_with ((with_reducible refine wpList_store_st (o:=⟨none,.store 215 _ _,_,_,_,_⟩) rfl 215 _ _ rfl w.heap.size rfl rfl (run_storeAt_row _ w.heap.size 215 215 (rdI 0 0 0 eT 0) (rdI 0 0 ((p:Int)+1) eT 3) ?_ ?_ ?_ ?_) ?_);exact HR.out;exact infoRd;rfl;exact rdC_one _ _ _ _ _)
  exact bodyPost_ret (v:=.agg (rdI 0 0 ((p:Int)+1) eT 3)) (results_cell_row rfl _ _ w.heap.size 215 (rdI 0 0 ((p:Int)+1) eT 3) (0,0) _ rfl (Blk.setRow HR.out) Tryz.underlying215 rfl infoRd) rfl ⟨by rw [HRES.out]<;>rfl,below_row HB.out (by omega) _⟩
 ·have qe:((e:Int) !=0)=true:=by rw [bne_iff_ne];omega
  have HRES:=Lib.hid (show Y=badC e p by rw [HG.out,if_pos he]);clear HG;have HFA:=Lib.hid (faultD_calls e p)
  go_wp2_with fail
  refine (HFA.out _).mono ?_;rintro en w4 ⟨rfl,hb⟩;have HR2:=Lib.hid (HR.out.below hb (Blk.lt HR.out));have HB2:=Lib.hid (HB.out.trans (hb.mono (by omega)));have hz2:=Nat.le_trans hz hb.size;clear HR HB hz hb;have HR:=HR2;have HB:=HB2;have hz:=hz2;clear HR2 HB2 hz2
  go_wp2_with ((with_reducible refine wpList_store_st (o:=⟨none,.store 215 _ _,_,_,_,_⟩) rfl 215 _ _ rfl w.heap.size rfl rfl (run_storeAt_row _ w.heap.size 215 215 (rdI 0 0 0 eT 0) (rdI 0 0 p eT e) ?_ ?_ ?_ ?_) ?_);exact HR.out;exact infoRd;rfl;exact rdC_one _ _ _ _ _)
  exact bodyPost_ret (v:=.agg (rdI 0 0 p eT e)) (results_cell_row rfl _ _ w.heap.size 215 (rdI 0 0 p eT e) (0,0) _ rfl (Blk.setRow HR.out) Tryz.underlying215 rfl infoRd) rfl ⟨by rw [HRES.out]<;>rfl,below_row HB.out (by omega) _⟩
end Go.Proofs.YtbccojjcdcighaaGreatDoor

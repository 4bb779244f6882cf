/- Texts put together: St Su Sv Ct. -/
import Derived.RangeFuncNested
import Derived.RangeFuncBound
import Derived.RangeFuncCalls
import Derived.RangeFuncLeaves
import Derived.Shelf.Abstract
import Derived.Shelf.RegionOpen
import Derived.WalkKit
import Derived.OwnWalkIn
import Derived.TacticsInMore
import Derived.LoopNIn
import Derived.LoopIn
import Derived.Test.YtbccojjcdcighaaGreatDoorQN
import Derived.Test.YtbccojjcdcighaaGreatDoorQC
import Derived.Test.YtbccojjcdcighaaGreatDoorQD
import Derived.Laws.Rows
import Derived.Laws.Tables
import Derived.Laws.CopyOwn
namespace Go.Proofs.YtbccojjcdcighaaGreatDoor
open Go.RowKit Go.Shelf BS
attribute [local go_sem] Oper.semAt_some
def el (f:Nat→Bool) (k:Nat):List Nat:=(List.range k).filter f
theorem el_zero (f:Nat→Bool):el f 0=[]:=rfl
theorem el_succ (f:Nat→Bool) (k:Nat):el f (k+1)=el f k++if f k then [k] else []:=by
 unfold el;rw [List.range_succ,List.filter_append];cases h:f k<;>simp [h]
theorem el_skip (f:Nat→Bool) {k j:Nat} (h:k≤j) (hf:∀i,k≤i→i<j→f i=false):el f j=el f k:=by
 induction j with
 |zero=>rw [show k=0 by omega]
 |succ j ih=>
  by_cases hk:k=j+1
  ·rw [hk]
  ·rw [el_succ,hf j (by omega) (by omega),ih (by omega) (fun i h1 h2=>hf i h1 (by omega))];simp
theorem el_len (f:Nat→Bool) (k:Nat):(el f k).length≤k:=by
 have:=List.length_filter_le f (List.range k);simpa [el] using this
theorem nextOf_cases (f:Nat→Bool) (k:Nat):(nextOf f k= -1∧∀j,k≤j→j<256→f j=false)∨(∃j:Nat,nextOf f k=j∧k≤j∧j<256∧f j=true∧∀i,k≤i→i<j→f i=false):=by
 by_cases h:∃j,k≤j∧j<256∧f j=true∧∀i,k≤i→i<j→f i=false
 ·obtain ⟨j,h1,h2,h3,h4⟩:=h
  exact .inr ⟨j,nextOf_eq h2 h1 h3 h4,h1,h2,h3,h4⟩
 ·have key:∀j,k≤j→j<256→f j=false:=by
   intro j
   induction j using Nat.strongRecOn with
   |ind j ih=>
    intro h1 h2
    cases hf:f j with
    |false=>rfl
    |true=>exact absurd ⟨j,h1,h2,hf,fun i hi hij=>ih i hij hi (by omega)⟩ h
  exact .inl ⟨nextOf_none key,key⟩
def SetAt (Bs:Nat) (s:BitVec 256) (W:World):Prop:=W.cell? ⟨Bs,0,none⟩=some (.int .u64 (wd s 0))∧W.cell? ⟨Bs,1,none⟩=some (.int .u64 (wd s 1))∧W.cell? ⟨Bs,2,none⟩=some (.int .u64 (wd s 2))∧W.cell? ⟨Bs,3,none⟩=some (.int .u64 (wd s 3))
theorem SetAt.keep {Bs B:Nat} {s:BitVec 256} {w w':World} (h:SetAt Bs s w) (hb:Below B w w') (hB:Bs<B):SetAt Bs s w':=
 ⟨(hb.cell (p:=⟨Bs,0,none⟩) hB).trans h.1,(hb.cell (p:=⟨Bs,1,none⟩) hB).trans h.2.1,(hb.cell (p:=⟨Bs,2,none⟩) hB).trans h.2.2.1,(hb.cell (p:=⟨Bs,3,none⟩) hB).trans h.2.2.2⟩
def KeepA (Bs:Nat) (W W':World):Prop:=W.heap.size≤W'.heap.size∧W'.heap[Bs]? =W.heap[Bs]?∧W'.heap[1]? =W.heap[1]?
theorem KeepA.of_below {Bs n:Nat} {W W':World} (h:Below n W W') (hB:Bs<n) (hg:1<n):KeepA Bs W W':=⟨h.size,h.block _ hB,h.block _ hg⟩
theorem KeepA.t {Bs:Nat} {A B C:World} (h:KeepA Bs A B) (k:KeepA Bs B C):KeepA Bs A C:=⟨Nat.le_trans h.1 k.1,k.2.1.trans h.2.1,k.2.2.trans h.2.2⟩
theorem KeepA.b {Bs:Nat} {w:World} (hB:Bs<w.heap.size) (_hg:1<w.heap.size) (W:World) (l:Nat) (o o':Obj) (hl:w.heap.size≤l) (_:W.heap[l]? =some o) (_:o.isCells=false) (_:o.isWalk=false):KeepA Bs W (W.putObj l o'):=
 ⟨by simp,World.putObj_heap_other (by omega),World.putObj_heap_other (by omega)⟩
theorem KeepA.set {Bs:Nat} {s:BitVec 256} {W W':World} (h:SetAt Bs s W) (hk:KeepA Bs W W'):SetAt Bs s W':=by
 unfold SetAt at*;simp only [World.cell?_of_block (w:=W) (a:=⟨Bs,0,none⟩) hk.2.1,World.cell?_of_block (w:=W) (a:=⟨Bs,1,none⟩) hk.2.1,World.cell?_of_block (w:=W) (a:=⟨Bs,2,none⟩) hk.2.1,World.cell?_of_block (w:=W) (a:=⟨Bs,3,none⟩) hk.2.1];exact h
theorem KeepA.tab {Bs:Nat} {W W':World} (h:Tab W) (hk:KeepA Bs W W'):Tab W':=fun j hj=>
 (World.cell?_of_block (w:=W) (a:=⟨1,j,none⟩) hk.2.2).trans (h j hj)
set_option maxRecDepth 100000 in
set_option maxHeartbeats 1000000 in
theorem all1_in (n:Nat) (hn:1≤n) (l Bs:Nat) (s:BitVec 256) (J Jx:List Nat→World→Prop)
 (hJ0:∀pre W W',J pre W→Below W.heap.size W W'→J pre W')
 (hY:∀pre x W,J pre W→pre.length<256→YieldAt Fence.wide (n - 1) Tryz.prog l #[.int .u8 (x:Nat)] W fun e W'=>
  (e=.returned (.bool true)∧J (pre++[x]) W'∧KeepA Bs W W')∨(e=.returned (.bool false)∧Jx (pre++[x]) W'))
 (W:World) (hBs:Bs<W.heap.size) (hg:1<W.heap.size) (hs:SetAt Bs s W) (hT:Tab W) (h0:J [] W):
 CallsIn Fence.wide n Tryz.prog 124 #[.func (.yield l) #[] #[],.pointer (some ⟨Bs,0,none⟩)] W fun e W'=>(∃v,e=.returned v)∧
  ((∃ys,ys=el s.getLsbD 256∧J ys W')∨(∃pre,(∃k,k≤256∧pre=el s.getLsbD k)∧Jx pre W')):=by
 have HT:=Lib.hid hT;clear hT;obtain ⟨c0,c1,c2,c3⟩:=hs;refine callsIn_of_wp Tryz.func124 rfl trivial ?_ rfl;simp only [Tryz.ntmps124,List.size_toArray,List.length_cons,List.length_nil,Nat.reduceAdd,Nat.reduceSub,Array.replicate_succ,Array.replicate_zero,List.push_toArray,List.append_toArray,List.nil_append,List.cons_append]
 gi_wp2_with (refine ⟨trivial,?_⟩;gi_at_call 79;refine (callsIn_wide.2 (next_calls s _ _ (by omega) HT.out (by omega))).mono ?_;rintro e w1 ⟨rfl,hb1⟩)
 have hw1:=hb1.size;have hk1:=KeepA.of_below hb1 hBs hg;have HT1:=Lib.hid (KeepA.tab HT.out hk1);have HS1:=Lib.hid (KeepA.set (s:=s) ⟨c0,c1,c2,c3⟩ hk1);have HJ1:=Lib.hid (hJ0 _ _ _ h0 hb1);have HW1:=Lib.hid (Nat.lt_of_lt_of_le hBs hw1);have HW2:=Lib.hid (Nat.lt_of_lt_of_le hg hw1);clear hk1 hb1 hw1 c0 c1 c2 c3 HT hBs hg h0
 gi_loopw [3] (fun b wr=>∃k:Nat,k≤256∧b=.int .i64 (nextOf s.getLsbD k)∧J (el s.getLsbD k) wr∧Tab wr∧SetAt Bs s wr∧Bs<wr.heap.size∧1<wr.heap.size)
  (fun b _=>if intOf b<0 then 0 else (257 - intOf b).toNat)
 case atStart=>exact ⟨0,Nat.zero_le _,rfl,HJ1.out,HT1.out,HS1.out,HW1.out,HW2.out⟩
 case round=>
  obtain ⟨k,hk,rfl,hJs,hTr,hSr,hWr,hWg⟩:=hrel;have HT:=Lib.hid hTr;obtain ⟨c0,c1,c2,c3⟩:=hSr;clear hTr HT1 HS1 HJ1 HW1 HW2;rcases nextOf_cases s.getLsbD k with ⟨e1,hf⟩|⟨j,e1,hkj,hj,hfj,hlt⟩
  ·rw [e1]
   have HF:=Lib.hid hf;clear hf e1
   gi_wp2
   go_end0;exact ⟨⟨_,rfl⟩,.inl ⟨_,(el_skip _ hk (fun i h1 h2=>HF.out i h1 h2)).symm,hJs⟩⟩
  ·rw [e1]
   have e2:el s.getLsbD (j+1)=el s.getLsbD k++[j]:=by rw [el_succ,hfj,el_skip _ hkj hlt];rfl
   have hl:(el s.getLsbD k).length<256:=by have:=el_len s.getLsbD k;omega
   obtain ⟨fn,tmps,assign,body,hy,hR⟩:=hY _ j wr hJs hl;have HE:=Lib.hid e2;clear e1 e2 hlt hfj
   gi_wp2_with fail
   refine hR.mono ?_;rintro e W3 (⟨rfl,hJ3,hk3⟩|⟨rfl,hJx3⟩)
   ·-- the round goes on
    have hs3:=hk3.1;have HT3:=Lib.hid (KeepA.tab HT.out hk3);obtain ⟨d0,d1,d2,d3⟩:SetAt Bs s W3:=KeepA.set (s:=s) ⟨c0,c1,c2,c3⟩ hk3;have HK3:=Lib.hid hk3;clear c0 c1 c2 c3 HT hk3
    gi_wp2_with (refine ⟨trivial,?_⟩;gi_at_call 79;refine (callsIn_wide.2 (next_calls s _ _ (by omega) HT3.out (by omega))).mono ?_;rintro e w4 ⟨rfl,hb4⟩)
    have hs4:=hb4.size
    go_roundw
    case rel=>
     have hk4:=KeepA.of_below (Bs:=Bs) hb4 (by omega) (by omega);refine ⟨j+1,by omega,rfl,?_,KeepA.tab HT3.out hk4,KeepA.set (s:=s) ⟨d0,d1,d2,d3⟩ hk4,by omega,by omega⟩;rw [HE.out];exact hJ0 _ _ _ hJ3 hb4
    case measure=>
     rcases nextOf_cases s.getLsbD (j+1) with ⟨e1,_⟩|⟨j',e1,h1,h2,_⟩
     ·rw [e1]
      show (if (-1:Int)<0 then 0 else _)<(if (j:Int)<0 then 0 else (257 - (j:Int)).toNat)
      rw [if_pos (by decide),if_neg (show¬(j:Int)<0 by omega)];omega
     ·rw [e1]
      show (if (j':Int)<0 then 0 else (257 - (j':Int)).toNat)<(if (j:Int)<0 then 0 else (257 - (j:Int)).toNat)
      rw [if_neg (show¬(j':Int)<0 by omega),if_neg (show¬(j:Int)<0 by omega)];omega
   ·gi_wp2
    refine bodyPost_ret (results_none rfl _ _ _) rfl ?_;exact ⟨⟨_,rfl⟩,.inr ⟨_,⟨j+1,by omega,HE.out.symm⟩,hJx3⟩⟩
set_option maxHeartbeats 1000000 in
theorem all_in (n:Nat) (s:BitVec 256) (w:World):
 CallsIn Fence.wide n Tryz.prog 116 #[setV s] w fun e w'=>e=.returned (.func (.func 124) #[] #[.pointer (some ⟨w.heap.size,0,none⟩)])∧w'=w.alloc (.cells #[.int .u64 (wd s 0),.int .u64 (wd s 1),.int .u64 (wd s 2),.int .u64 (wd s 3)] 43):=by
 refine callsIn_of_wp Tryz.func116 rfl trivial ?_ rfl;simp only [Tryz.ntmps116,List.size_toArray,List.length_cons,List.length_nil,Nat.reduceAdd,Nat.reduceSub,Array.replicate_succ,Array.replicate_zero,List.push_toArray,List.append_toArray,List.nil_append,List.cons_append]
 gi_wp2
 go_ret;exact ⟨rfl,rfl⟩
theorem all_stops (n:Nat) (hn:1≤n) (Bs:Nat) (s:BitVec 256) (w:World) (hBs:Bs<w.heap.size) (hg:1<w.heap.size) (hs:SetAt Bs s w) (hT:Tab w):
 SeqStopsK Fence.wide n Tryz.prog 124 #[.pointer (some ⟨Bs,0,none⟩)] (fun x:Nat=>#[Value.int .u8 (x:Int)]) (KeepA Bs) (fun ys=>ys=el s.getLsbD 256)
  (fun pre=>∃k,k≤256∧pre=el s.getLsbD k) 256 w:=fun l J Jx W hW hA _ hY h0=>
 all1_in n hn l Bs s J Jx (fun pre W1 W2 hj hb=>hA pre W1 W2 none hj ⟨hb.os,hb.tape,hb.output,hb.size,fun k hk _=>hb.block k hk⟩ (fun r e=>by cases e)) hY W (Nat.lt_of_lt_of_le hBs hW.size) (Nat.lt_of_lt_of_le hg hW.size) (hs.keep hW hBs) (hT.keep hW hg) h0
end Go.Proofs.YtbccojjcdcighaaGreatDoor

namespace Go.Proofs.YtbccojjcdcighaaGreatDoor
open Go.RowKit Go.Shelf BS
attribute [local go_sem] Oper.semAt_some
def BytesAt (n₀:Nat) (W:World) (v:Value) (l:List (Fin 256)):Prop:=
 ∃(a:Option Addr) (cap:Nat),v=.slice a l.length cap∧(l≠[]→∃b off,a=some ⟨b,off,none⟩∧b<n₀∧∀j (h:j<l.length),W.cell? ⟨b,off+j,none⟩=some (.int .u8 (l[j].val:Nat)))
theorem BytesAt.keep {n₀:Nat} {A B:World} {v:Value} {l:List (Fin 256)} (h:BytesAt n₀ A v l) (hb:Below n₀ A B):BytesAt n₀ B v l:=by
 obtain ⟨a,cap,e,h⟩:=h;refine ⟨a,cap,e,fun hne=>?_⟩;obtain ⟨b,off,e,hlt,hc⟩:=h hne;exact ⟨b,off,e,hlt,fun j hj=>(hb.cell (p:=⟨b,off+j,none⟩) hlt).trans (hc j hj)⟩
set_option maxRecDepth 100000 in
set_option maxHeartbeats 2000000 in
theorem values1_in (n:Nat) (hn:1≤n) (k0 Bs n₀ b off cap:Nat) (l:List (Fin 256)) (hreach:l.length≤9223372036854775807) (hb:b<n₀) (J Jx:List (Fin 256)→World→Prop)
 (hY:∀pre x W,J pre W→pre.length<l.length→YieldAt Fence.wide (n - 1) Tryz.prog k0 #[.int .u8 (x.val:Nat)] W fun e W'=>
  (e=.returned (.bool true)∧J (pre++[x]) W'∧Below n₀ W W')∨(e=.returned (.bool false)∧Jx (pre++[x]) W'))
 (W:World) (hBs:W.cell? ⟨Bs,0,none⟩=some (.slice (some ⟨b,off,none⟩) l.length cap)) (hc:∀j (h:j<l.length),W.cell? ⟨b,off+j,none⟩=some (.int .u8 (l[j].val:Nat))) (h0:J [] W):
 CallsIn Fence.wide n Tryz.prog 125 #[.func (.yield k0) #[] #[],.pointer (some ⟨Bs,0,none⟩)] W fun e W'=>(∃v,e=.returned v)∧
  ((∃ys,ys=l∧J ys W')∨(∃pre,(∃k,k≤l.length∧pre=l.take k)∧Jx pre W')):=by
 have HC:=Lib.hid hc;clear hc;refine callsIn_of_wp Tryz.func125 rfl trivial ?_ rfl;simp only [Tryz.ntmps125,List.size_toArray,List.length_cons,List.length_nil,Nat.reduceAdd,Nat.reduceSub,Array.replicate_succ,Array.replicate_zero,List.push_toArray,List.append_toArray,List.nil_append,List.cons_append]
 gi_wp2
 gi_loopw [7] (fun i wr=>∃k:Nat,k≤l.length∧i=.int .i64 k∧J (l.take k) wr∧Below n₀ W wr)
  (fun i _=>l.length - (intOf i).toNat)
 case atStart=>exact ⟨0,Nat.zero_le _,rfl,h0,Below.refl _ _⟩
 case round=>
  obtain ⟨k,hk,rfl,hJs,hnx⟩:=hrel
  by_cases hlt:k<l.length
  ·have hcx:wr.cell? ⟨b,off+k,none⟩=some (.int .u8 (l[k].val:Nat)):=(hnx.cell (p:=⟨b,off+k,none⟩) hb).trans (HC.out k hlt)
   have hx:=l[k].isLt;have HE:=Lib.hid (show l.take (k+1)=l.take k++[l[k]] from by simp);obtain ⟨fn,tmps,assign,body,hy,hR⟩:=hY _ l[k] wr hJs (by rw [List.length_take];omega);generalize l[k]=x at*
   gi_wp2
   refine hR.mono ?_;rintro e W3 (⟨rfl,hJ3,hk3⟩|⟨rfl,hJx3⟩)
   ·gi_wp2
    go_roundw
    case rel=>exact ⟨k+1,by omega,by simp,by rw [HE.out];exact hJ3,hnx.trans hk3⟩
    case measure=>simp [intOf];omega
   ·gi_wp2
    refine bodyPost_ret (results_none rfl _ _ _) rfl ?_;exact ⟨⟨_,rfl⟩,.inr ⟨_,⟨k+1,by omega,HE.out.symm⟩,hJx3⟩⟩
  ·obtain rfl:k=l.length:=by omega
   gi_wp2
   go_end0;exact ⟨⟨_,rfl⟩,.inl ⟨_,by simp,hJs⟩⟩
set_option maxRecDepth 100000 in
set_option maxHeartbeats 1000000 in
theorem values1_nil_in (n:Nat) (k0 Bs:Nat) (a:Option Addr) (cap:Nat) (J:List (Fin 256)→World→Prop) (W:World) (hBs:W.cell? ⟨Bs,0,none⟩=some (.slice a 0 cap)) (h0:J [] W):
 CallsIn Fence.wide n Tryz.prog 125 #[.func (.yield k0) #[] #[],.pointer (some ⟨Bs,0,none⟩)] W fun e W'=>(∃v,e=.returned v)∧J [] W':=by
 refine callsIn_of_wp Tryz.func125 rfl trivial ?_ rfl;simp only [Tryz.ntmps125,List.size_toArray,List.length_cons,List.length_nil,Nat.reduceAdd,Nat.reduceSub,Array.replicate_succ,Array.replicate_zero,List.push_toArray,List.append_toArray,List.nil_append,List.cons_append]
 gi_wp2
 gi_loopw [7] (fun i wr=>i=.int .i64 0∧J [] wr) (fun _ _=>0)
 case atStart=>exact ⟨rfl,h0⟩
 case round=>
  obtain ⟨rfl,hJs⟩:=hrel
  gi_wp2
  go_end0;exact ⟨⟨_,rfl⟩,hJs⟩
set_option maxHeartbeats 1000000 in
theorem values_in (n:Nat) (a:Option Addr) (len cap:Nat) (w:World):
 CallsIn Fence.wide n Tryz.prog 117 #[.slice a len cap] w fun e w'=>e=.returned (.func (.func 125) #[] #[.pointer (some ⟨w.heap.size,0,none⟩)])∧w'=w.alloc (.cells #[.slice a len cap] 70):=by
 refine callsIn_of_wp Tryz.func117 rfl trivial ?_ rfl;simp only [Tryz.ntmps117,List.size_toArray,List.length_cons,List.length_nil,Nat.reduceAdd,Nat.reduceSub,Array.replicate_succ,Array.replicate_zero,List.push_toArray,List.append_toArray,List.nil_append,List.cons_append]
 gi_wp2
 go_ret;exact ⟨rfl,rfl⟩
theorem values_stops (n:Nat) (hn:1≤n) (Bs n₀:Nat) (v:Value) (l:List (Fin 256)) (hreach:l.length≤9223372036854775807) (w:World) (hBs:Bs<w.heap.size) (hn₀:n₀≤w.heap.size)
 (hc:w.cell? ⟨Bs,0,none⟩=some v) (hI:BytesAt n₀ w v l):
 SeqStopsK Fence.wide n Tryz.prog 125 #[.pointer (some ⟨Bs,0,none⟩)] (fun x:Fin 256=>#[Value.int .u8 (x.val:Int)]) (Below n₀) (fun ys=>ys=l) (fun pre=>∃k,k≤l.length∧pre=l.take k) l.length w:=fun k0 J Jx W hW _ _ hY h0=>by
 have hc':=(hW.cell (p:=⟨Bs,0,none⟩) hBs).trans hc;obtain ⟨a,cap,rfl,hI2⟩:=hI.keep (hW.mono hn₀)
 by_cases hl:l=[]
 ·subst hl
  exact (values1_nil_in n k0 Bs a cap J W hc' h0).mono fun e W' ⟨he,hj⟩=>⟨he,.inl ⟨_,rfl,hj⟩⟩
 ·obtain ⟨b,off,rfl,hb,hcs⟩:=hI2 hl
  exact values1_in n hn k0 Bs n₀ b off cap l hreach hb J Jx hY W hc' hcs h0
end Go.Proofs.YtbccojjcdcighaaGreatDoor

namespace Go.Proofs.YtbccojjcdcighaaGreatDoor
open Go.RowKit Go.Shelf BS
attribute [local go_sem] Oper.semAt_some
def one (x:Nat):BitVec 256:=ofFn fun j=>decide (j=x)
def withL (s:BitVec 256) (l:List (Fin 256)):BitVec 256:=l.foldl (fun t x=>t|||one x.val) s
theorem withL_snoc (s:BitVec 256) (l:List (Fin 256)) (x:Fin 256):withL s (l++[x])=withL s l|||one x.val:=by simp [withL]
theorem wd_one (x i:Nat) (hi:i<4):wd (one x) i=if x / 64=i then 2 ^ (x % 64) else 0:=by
 apply Nat.eq_of_testBit_eq;intro j;rw [testBit_wd,one,get_ofFn]
 by_cases h:x / 64=i
 ·rw [if_pos h,Nat.testBit_two_pow]
  by_cases hj:j<64
  ·simp only [hj,show 64*i+j<256 by omega,decide_true,Bool.true_and,decide_eq_decide];omega
  ·simp only [hj,decide_false,Bool.false_and]
   symm;rw [decide_eq_false_iff_not];omega
 ·rw [if_neg h,Nat.zero_testBit]
  by_cases hj:j<64
  ·simp only [hj,show 64*i+j<256 by omega,decide_true,Bool.true_and,decide_eq_false_iff_not];omega
  ·simp [hj]
theorem or_one_same (t:BitVec 256) (x i:Nat) (hi:i<4) (h:x / 64=i):bits .or .u64 (wd t i:Int) (IntKind.u64.wrap (2 ^ (x % 64)))=(wd (t|||one x) i:Int):=by
 have h1:x % 64<64:=Nat.mod_lt _ (by decide);have h2:(2:Nat) ^ (x % 64)<2 ^ 64:=Nat.pow_lt_pow_right (by decide) h1;have h3:((2:Int) ^ (x % 64))=((2 ^ (x % 64):Nat):Int):=by simp
 rw [h3,wrap_u64_nat _ h2,bits_or_nat _ _ (wd_lt _ _) h2,wd_or,wd_one x i hi,if_pos h]
theorem or_one_other (t:BitVec 256) (x i:Nat) (hi:i<4) (h:x / 64≠i):wd t i=wd (t|||one x) i:=by
 rw [wd_or,wd_one x i hi,if_neg h,Nat.or_zero]
@[reducible] def setA (s:BitVec 256):Array Value:=#[.int .u64 (wd s 0),.int .u64 (wd s 1),.int .u64 (wd s 2),.int .u64 (wd s 3)]
theorem Blk.cells4 {W:World} {B:Nat} {a b c d:Value} {t:TypeId} (h:Blk W B #[a,b,c,d] t):(W.cell? ⟨B,0,none⟩=some a∧W.cell? ⟨B,1,none⟩=some b∧W.cell? ⟨B,2,none⟩=some c∧W.cell? ⟨B,3,none⟩=some d)∧
 (W.frozen? ⟨B,0,none⟩=false∧W.frozen? ⟨B,1,none⟩=false∧W.frozen? ⟨B,2,none⟩=false∧W.frozen? ⟨B,3,none⟩=false):=
 ⟨⟨h.cell 0,h.cell 1,h.cell 2,h.cell 3⟩,h.frozen 0,h.frozen 1,h.frozen 2,h.frozen 3⟩
theorem setA_or (t:BitVec 256) (x:Nat) (h0:x / 64=0):(setA t).setIfInBounds 0 (.int .u64 (bits .or .u64 (wd t 0:Int) (IntKind.u64.wrap (2 ^ (x % 64)))))=setA (t|||one x):=by
 rw [or_one_same t x 0 (by decide) h0,setA,setA,←or_one_other t x 1 (by decide) (by omega),←or_one_other t x 2 (by decide) (by omega),←or_one_other t x 3 (by decide) (by omega)];rfl
theorem setA_or1 (t:BitVec 256) (x:Nat) (h0:x / 64=1):(setA t).setIfInBounds 1 (.int .u64 (bits .or .u64 (wd t 1:Int) (IntKind.u64.wrap (2 ^ (x % 64)))))=setA (t|||one x):=by
 rw [or_one_same t x 1 (by decide) h0,setA,setA,←or_one_other t x 0 (by decide) (by omega),←or_one_other t x 2 (by decide) (by omega),←or_one_other t x 3 (by decide) (by omega)];rfl
theorem setA_or2 (t:BitVec 256) (x:Nat) (h0:x / 64=2):(setA t).setIfInBounds 2 (.int .u64 (bits .or .u64 (wd t 2:Int) (IntKind.u64.wrap (2 ^ (x % 64)))))=setA (t|||one x):=by
 rw [or_one_same t x 2 (by decide) h0,setA,setA,←or_one_other t x 0 (by decide) (by omega),←or_one_other t x 1 (by decide) (by omega),←or_one_other t x 3 (by decide) (by omega)];rfl
theorem setA_or3 (t:BitVec 256) (x:Nat) (h0:x / 64=3):(setA t).setIfInBounds 3 (.int .u64 (bits .or .u64 (wd t 3:Int) (IntKind.u64.wrap (2 ^ (x % 64)))))=setA (t|||one x):=by
 rw [or_one_same t x 3 (by decide) h0,setA,setA,←or_one_other t x 0 (by decide) (by omega),←or_one_other t x 1 (by decide) (by omega),←or_one_other t x 2 (by decide) (by omega)];rfl
set_option maxRecDepth 100000 in
set_option maxHeartbeats 2000000 in
theorem with_in (n:Nat) (hn:3≤n) (s:BitVec 256) (v:Value) (a:Option Addr) (len cap:Nat) (hv:v=.slice a len cap) (l:List (Fin 256)) (hreach:l.length≤9223372036854775807) (w:World) (hI:BytesAt w.heap.size w v l):
 CallsIn Fence.wide n Tryz.prog 106 #[setV s,v] w fun e W'=>e=.returned (setV (withL s l))∧Below w.heap.size w W':=by
 have h1:1≤n:=by omega
 subst hv;refine callsIn_of_wp_marks Tryz.func106 rfl trivial ?_ rfl;simp only [Tryz.ntmps106,List.size_toArray,List.length_cons,List.length_nil,Nat.reduceAdd,Nat.reduceSub,Array.replicate_succ,Array.replicate_zero,List.push_toArray,List.append_toArray,List.nil_append,List.cons_append]
 gi_wp2_with (refine ⟨trivial,?_⟩;gi_at_call 117;refine (values_in (n - 1) _ _ _ _).mono ?_;rintro e w' ⟨rfl,rfl⟩)
 obtain ⟨w0,hw0⟩:∃w0,((w.alloc (.cells (setA s) 43)).alloc (.cells #[.int .u64 0,.int .u64 0,.int .u64 0,.int .u64 0] 43))=w0:=⟨_,rfl⟩;have bS:Blk w0 w.heap.size (setA s) 43:=by rw [←hw0];exact (Blk.new w _ _).alloc _
 have bR:Blk w0 (w.heap.size+1) #[.int .u64 0,.int .u64 0,.int .u64 0,.int .u64 0] 43:=by
  rw [←hw0];have:=Blk.new (w.alloc (.cells (setA s) 43)) #[.int .u64 0,.int .u64 0,.int .u64 0,.int .u64 0] 43;rwa [World.size_alloc] at this
 have hz0:w0.heap.size=w.heap.size+2:=by rw [←hw0];simp
 have hB0:Below w.heap.size w w0:=by rw [←hw0];go_grown
 rw [show ((w.alloc (.cells #[.int .u64 (wd s 0),.int .u64 (wd s 1),.int .u64 (wd s 2),.int .u64 (wd s 3)] 43)).alloc (.cells #[.int .u64 0,.int .u64 0,.int .u64 0,.int .u64 0] 43))=w0 from hw0];have bN:=Boxed.new w0 70 (.slice a len cap);rw [show w.heap.size+1+1=w0.heap.size by omega];clear hw0;have hz1:w.heap.size+2≤w0.heap.size:=by omega
 clear hz0;refine wpIn_rangeFunc_ownG rfl h1 (gf:=125) (lb:=#[.pointer (some ⟨w0.heap.size,0,none⟩)]) rfl trivial (enters_of Tryz.func125 (by kernel_rfl) rfl)
  (values_stops (n - 1) (by omega) w0.heap.size w.heap.size _ l hreach _ (by simp) (by simp;omega) bN.cell (hI.keep (hB0.alloc (by omega) _))) belowK_t (belowK_b (by simp;omega)) (Below.refl _ _) (fun _=>rfl)
  (fun pre W=>(Blk W w.heap.size (setA (withL s pre)) 43∧Blk W (w.heap.size+1) #[.int .u64 0,.int .u64 0,.int .u64 0,.int .u64 0] 43)∧Below w.heap.size w W)
  (fun _ _ _=>False)
  (OwnFrom.and (Own.from (fun s' A B row hs hg hr=>⟨hs.1.kept hg (hs.1.not_row hr),hs.2.kept hg (hs.2.not_row hr)⟩) _) (ownFrom_below (Nat.le_refl _) (by simp;omega)))
  (fun _ _ _ _ _ hs _ _=>hs)
  ⟨⟨bS.alloc _,bR.alloc _⟩,hB0.alloc (by omega) _⟩
  (fun x=>{tmps:=#[setV s,.slice a len cap,.pointer (some ⟨w.heap.size,0,none⟩),undef,.pointer (some ⟨w.heap.size+1,0,none⟩),.int .u8 (x.val:Int),.slice a len cap,
   .func (.func 125) #[] #[.pointer (some ⟨w0.heap.size,0,none⟩)],.int .u8 (x.val:Int),undef,undef,undef,undef,undef,undef,undef,undef,undef,undef],defers:=[]}) ?assign ?body ?done ?stop
 case assign=>
  intro l x W K hK
  gi_wp2
  exact hK
 case body=>
  rintro l pre x W ⟨⟨bS,bR⟩,hB⟩ _;obtain ⟨⟨c0,c1,c2,c3⟩,f0,f1,f2,f3⟩:=bS.cells4;have hx:=x.isLt;have HW:=Lib.hid (withL_snoc s pre x);generalize withL s pre=t at*;obtain ⟨x,hx'⟩:=x;simp only at hx HW ⊢;have hx2:0≤(x:Int) % 64:=by omega
  have hx3:(x:Int) % 64<64:=by omega
  have h4:(x:Int) / 64=0∨(x:Int) / 64=1∨(x:Int) / 64=2∨(x:Int) / 64=3:=by omega
  rcases h4 with hx4|hx4|hx4|hx4
  ·gi_wp2
   refine ⟨(KeepsOthers.setCell _ _ _).from _,below_set (Below.refl _ _) (Nat.le_refl _) _ _,⟨?_,bR.other (by omega) _ _⟩,below_set hB (Nat.le_refl _) _ _⟩;rw [HW.out,←setA_or t x (by omega)];exact bS.set 0 _
  ·gi_wp2
   refine ⟨(KeepsOthers.setCell _ _ _).from _,below_set (Below.refl _ _) (Nat.le_refl _) _ _,⟨?_,bR.other (by omega) _ _⟩,below_set hB (Nat.le_refl _) _ _⟩;rw [HW.out,←setA_or1 t x (by omega)];exact bS.set 1 _
  ·gi_wp2
   refine ⟨(KeepsOthers.setCell _ _ _).from _,below_set (Below.refl _ _) (Nat.le_refl _) _ _,⟨?_,bR.other (by omega) _ _⟩,below_set hB (Nat.le_refl _) _ _⟩;rw [HW.out,←setA_or2 t x (by omega)];exact bS.set 2 _
  ·gi_wp2
   refine ⟨(KeepsOthers.setCell _ _ _).from _,below_set (Below.refl _ _) (Nat.le_refl _) _ _,⟨?_,bR.other (by omega) _ _⟩,below_set hB (Nat.le_refl _) _ _⟩;rw [HW.out,←setA_or3 t x (by omega)];exact bS.set 3 _
 case done=>
  rintro D ys W hD rfl ⟨⟨bS,bR⟩,hB⟩ hK;obtain ⟨⟨c0,c1,c2,c3⟩,f0,f1,f2,f3⟩:=bS.cells4;obtain ⟨⟨d0,d1,d2,d3⟩,g0,g1,g2,g3⟩:=bR.cells4
  gi_wp2
  generalize withL s ys=t at*;have bR':=(((bR.set 0 (.int .u64 (wd t 0))).set 1 (.int .u64 (wd t 1))).set 2 (.int .u64 (wd t 2))).set 3 (.int .u64 (wd t 3));have hB':=below_set (below_set (below_set (below_set hB (B:=w.heap.size+1) (by omega) 0 (.int .u64 (wd t 0))) (B:=w.heap.size+1) (by omega) 1 (.int .u64 (wd t 1))) (B:=w.heap.size+1) (by omega) 2 (.int .u64 (wd t 2))) (B:=w.heap.size+1) (by omega) 3 (.int .u64 (wd t 3));have hK':=((((KeepsOthers.setCell W ⟨w.heap.size+1,0,none⟩ (.int .u64 (wd t 0))).trans (KeepsOthers.setCell _ ⟨w.heap.size+1,1,none⟩ (.int .u64 (wd t 1)))).trans (KeepsOthers.setCell _ ⟨w.heap.size+1,2,none⟩ (.int .u64 (wd t 2)))).trans (KeepsOthers.setCell _ ⟨w.heap.size+1,3,none⟩ (.int .u64 (wd t 3)))).same D _ hK rfl;generalize (((W.setCell ⟨w.heap.size+1,0,none⟩ (.int .u64 (wd t 0))).setCell ⟨w.heap.size+1,1,none⟩ (.int .u64 (wd t 1))).setCell ⟨w.heap.size+1,2,none⟩ (.int .u64 (wd t 2))).setCell ⟨w.heap.size+1,3,none⟩ (.int .u64 (wd t 3))=W4 at*;refine ⟨by simp,.inl ⟨_,_,rfl,run_takeDeferred hK',?_⟩⟩;have bR2:Blk (W4.putObj D (.deferred none)) (w.heap.size+1) (setA t) 43:=bR'.putObj _ hK' rfl;obtain ⟨⟨e0,e1,e2,e3⟩,_⟩:=bR2.cells4;refine ⟨setV t,?_,rfl,hB'.trans (belowK_b (w:=w) (Nat.le_refl _) _ D _ _ (by simp at hD;omega) hK' rfl rfl)⟩
  simp [results,Tryz.f106,go_sem,e0,e1,e2,e3]
 case stop=>
  rintro D c pre W _ _ h _;exact h.elim
end Go.Proofs.YtbccojjcdcighaaGreatDoor

namespace Go.Proofs.YtbccojjcdcighaaGreatDoor
open Go.RowKit Go.Shelf BS
attribute [local go_sem] Oper.semAt_some
def cDig:BitVec 256:=range 48 57
def cUpp:BitVec 256:=range 65 90
def cLow:BitVec 256:=range 97 122
def cAlp:BitVec 256:=cUpp|||cLow
def cAln:BitVec 256:=cAlp|||cDig
def cGra:BitVec 256:=range 33 126
def cBla:BitVec 256:=withL 0 [9,32]
def cCnt:BitVec 256:=withL (range 0 31) [127]
def cPri:BitVec 256:=range 32 126
def cPun:BitVec 256:=cGra &&& ~~~cAln
def cSpa:BitVec 256:=withL (range 9 13) [32]
def cXdi:BitVec 256:=cDig|||(range 65 70|||range 97 102)
def tabL:List (ByteArray×BitVec 256):=[(⟨#[97,108,110,117,109]⟩,cAln),(⟨#[97,108,112,104,97]⟩,cAlp),(⟨#[98,108,97,110,107]⟩,cBla),(⟨#[99,110,116,114,108]⟩,cCnt),(⟨#[100,105,103,105,116]⟩,cDig),(⟨#[103,114,97,112,104]⟩,cGra),(⟨#[108,111,119,101,114]⟩,cLow),(⟨#[112,114,105,110,116]⟩,cPri),(⟨#[112,117,110,99,116]⟩,cPun),(⟨#[115,112,97,99,101]⟩,cSpa),(⟨#[117,112,112,101,114]⟩,cUpp),(⟨#[120,100,105,103,105,116]⟩,cXdi)]
def entV (e:ByteArray×BitVec 256):List Value:=[.string e.1,.int .u64 (wd e.2 0),.int .u64 (wd e.2 1),.int .u64 (wd e.2 2),.int .u64 (wd e.2 3)]
def tabV:Array Value:=(tabL.flatMap entV).toArray
theorem with_calls' (s:BitVec 256) (a:Option Addr) (len cap:Nat) (l:List (Fin 256)) (hreach:l.length≤9223372036854775807) (w:World) (hI:BytesAt w.heap.size w (.slice a len cap) l):
 Calls Tryz.prog 106 #[setV s,.slice a len cap] w fun e W'=>e=.returned (setV (withL s l))∧Below w.heap.size w W':=
 callsIn_wide.1 (with_in 3 (by omega) s _ a len cap rfl l hreach w hI)
theorem BytesAt.le {n n':Nat} {W:World} {v:Value} {l:List (Fin 256)} (h:BytesAt n W v l) (hn:n≤n'):BytesAt n' W v l:=by
 obtain ⟨a,cap,e,h⟩:=h;refine ⟨a,cap,e,fun hne=>?_⟩;obtain ⟨b,off,e,hlt,hc⟩:=h hne;exact ⟨b,off,e,by omega,hc⟩
theorem BytesAt.step {W W':World} {v:Value} {l:List (Fin 256)} (h:BytesAt W.heap.size W v l) (hb:Below W.heap.size W W'):BytesAt W'.heap.size W' v l:=(h.keep hb).le hb.size
def byW (l:List (Fin 256)):Array Value:=(l.map fun (x:Fin 256)=>Value.int .u8 (x.val:Int)).toArray
theorem bytes_new (W:World) (t:TypeId) (l:List (Fin 256)):BytesAt (W.alloc (.cells (byW l) t)).heap.size (W.alloc (.cells (byW l) t)) (.slice (some ⟨W.heap.size,0,none⟩) l.length l.length) l:=by
 refine ⟨_,l.length,rfl,fun _=>⟨W.heap.size,0,rfl,by simp,fun j hj=>?_⟩⟩;rw [Nat.zero_add,(Blk.new W _ t).cell j]
 simp [byW,hj]
theorem Deps.get {md:Region.Mode} {ops:Array Oper} {V:Nat→Value→World→Prop} {o oj:Oper} {a:Act} {w:World} {k d:Nat} (h:Deps md ops V o a w) (hk:(o.after.any fun e=>Region.binds md e && e.on==k)=true) (hj:ops[k]? =some oj) (hd:oj.dst=some d):V k (a.tmps.getD d undef) w:=by
 simp only [Array.any_eq_true',Bool.and_eq_true,beq_iff_eq] at hk;obtain ⟨e,he,hb,rfl⟩:=hk;exact h e he hb oj d hj hd
theorem rangeC (x y:Nat) (w:World) (hx:x<256) (hy:y<256):Calls Tryz.prog 204 #[.int .u8 x,.int .u8 y] w fun e w'=>e=.returned (setV (range x y))∧Below w.heap.size w w':=by
 have h:=range_calls x y w (by omega) (by omega) (by omega) (by omega);rw [Int.toNat_natCast,Int.toNat_natCast] at h;exact h
def UT:Nat→List Value→Value→Prop
 |0,_,v=>v=setV cAln
 |1,_,v=>v=.agg #[.string ⟨#[97,108,110,117,109]⟩,.int .u64 (wd cAln 0),.int .u64 (wd cAln 1),.int .u64 (wd cAln 2),.int .u64 (wd cAln 3)]
 |2,_,v=>v=setV cAlp
 |3,_,v=>v=.agg #[.string ⟨#[97,108,112,104,97]⟩,.int .u64 (wd cAlp 0),.int .u64 (wd cAlp 1),.int .u64 (wd cAlp 2),.int .u64 (wd cAlp 3)]
 |4,_,v=>v=setV 0
 |5,_,v=>∃a,v=.slice a 2 2
 |6,_,v=>v=setV cBla
 |7,_,v=>v=.agg #[.string ⟨#[98,108,97,110,107]⟩,.int .u64 (wd cBla 0),.int .u64 (wd cBla 1),.int .u64 (wd cBla 2),.int .u64 (wd cBla 3)]
 |8,_,v=>v=setV (range 0 31)
 |9,_,v=>∃a,v=.slice a 1 1
 |10,_,v=>v=setV cCnt
 |11,_,v=>v=.agg #[.string ⟨#[99,110,116,114,108]⟩,.int .u64 (wd cCnt 0),.int .u64 (wd cCnt 1),.int .u64 (wd cCnt 2),.int .u64 (wd cCnt 3)]
 |12,_,v=>v=setV cDig
 |13,_,v=>v=.agg #[.string ⟨#[100,105,103,105,116]⟩,.int .u64 (wd cDig 0),.int .u64 (wd cDig 1),.int .u64 (wd cDig 2),.int .u64 (wd cDig 3)]
 |14,_,v=>v=setV cGra
 |15,_,v=>v=.agg #[.string ⟨#[103,114,97,112,104]⟩,.int .u64 (wd cGra 0),.int .u64 (wd cGra 1),.int .u64 (wd cGra 2),.int .u64 (wd cGra 3)]
 |16,_,v=>v=setV cLow
 |17,_,v=>v=.agg #[.string ⟨#[108,111,119,101,114]⟩,.int .u64 (wd cLow 0),.int .u64 (wd cLow 1),.int .u64 (wd cLow 2),.int .u64 (wd cLow 3)]
 |18,_,v=>v=setV cPri
 |19,_,v=>v=.agg #[.string ⟨#[112,114,105,110,116]⟩,.int .u64 (wd cPri 0),.int .u64 (wd cPri 1),.int .u64 (wd cPri 2),.int .u64 (wd cPri 3)]
 |20,_,v=>v=setV cGra
 |21,_,v=>v=setV cAln
 |22,_,v=>v=setV cPun
 |23,_,v=>v=.agg #[.string ⟨#[112,117,110,99,116]⟩,.int .u64 (wd cPun 0),.int .u64 (wd cPun 1),.int .u64 (wd cPun 2),.int .u64 (wd cPun 3)]
 |24,_,v=>v=setV (range 9 13)
 |25,_,v=>∃a,v=.slice a 1 1
 |26,_,v=>v=setV cSpa
 |27,_,v=>v=.agg #[.string ⟨#[115,112,97,99,101]⟩,.int .u64 (wd cSpa 0),.int .u64 (wd cSpa 1),.int .u64 (wd cSpa 2),.int .u64 (wd cSpa 3)]
 |28,_,v=>v=setV cUpp
 |29,_,v=>v=.agg #[.string ⟨#[117,112,112,101,114]⟩,.int .u64 (wd cUpp 0),.int .u64 (wd cUpp 1),.int .u64 (wd cUpp 2),.int .u64 (wd cUpp 3)]
 |30,_,v=>v=setV cDig
 |31,_,v=>v=setV (range 65 70)
 |32,_,v=>v=setV (range 97 102)
 |33,_,v=>v=setV (range 65 70|||range 97 102)
 |34,_,v=>v=setV cXdi
 |35,_,v=>v=.agg #[.string ⟨#[120,100,105,103,105,116]⟩,.int .u64 (wd cXdi 0),.int .u64 (wd cXdi 1),.int .u64 (wd cXdi 2),.int .u64 (wd cXdi 3)]
 |36,_,v=>v=.agg tabV
 |_,_,_=>True
def VT:Nat→Value→World→Prop
 |5,v,w=>BytesAt w.heap.size w v [9,32]
 |9,v,w=>BytesAt w.heap.size w v [127]
 |25,v,w=>BytesAt w.heap.size w v [32]
 |_,_,_=>True
theorem keepVT:∀i v w w',Below w.heap.size w w'→VT i v w→VT i v w':=by
 intro i v w w' hb h;unfold VT at*
 split<;>first|exact BytesAt.step h hb|trivial
theorem tabV_one:(tabV.all fun x=>x.oneCell')=true:=by simp [tabV,tabL,entV,Value.oneCell']
theorem empty_set:(Value.agg #[.int .u64 0,.int .u64 0,.int .u64 0,.int .u64 0])=setV 0:=rfl
theorem dig_c (w:World):Calls Tryz.prog 204 #[.int .u8 48,.int .u8 57] w fun e w'=>e=.returned (setV cDig)∧Below w.heap.size w w':=rangeC 48 57 w (by decide) (by decide)
theorem upp_c (w:World):Calls Tryz.prog 204 #[.int .u8 65,.int .u8 90] w fun e w'=>e=.returned (setV cUpp)∧Below w.heap.size w w':=rangeC 65 90 w (by decide) (by decide)
theorem low_c (w:World):Calls Tryz.prog 204 #[.int .u8 97,.int .u8 122] w fun e w'=>e=.returned (setV cLow)∧Below w.heap.size w w':=rangeC 97 122 w (by decide) (by decide)
theorem alp_c (w:World):Calls Tryz.prog 198 #[setV cUpp,setV cLow] w fun e w'=>e=.returned (setV cAlp)∧Below w.heap.size w w':=or_calls cUpp cLow w
theorem aln_c (w:World):Calls Tryz.prog 198 #[setV cAlp,setV cDig] w fun e w'=>e=.returned (setV cAln)∧Below w.heap.size w w':=or_calls cAlp cDig w
theorem gra_c (w:World):Calls Tryz.prog 204 #[.int .u8 33,.int .u8 126] w fun e w'=>e=.returned (setV cGra)∧Below w.heap.size w w':=rangeC 33 126 w (by decide) (by decide)
theorem pri_c (w:World):Calls Tryz.prog 204 #[.int .u8 32,.int .u8 126] w fun e w'=>e=.returned (setV cPri)∧Below w.heap.size w w':=rangeC 32 126 w (by decide) (by decide)
theorem r31_c (w:World):Calls Tryz.prog 204 #[.int .u8 0,.int .u8 31] w fun e w'=>e=.returned (setV (range 0 31))∧Below w.heap.size w w':=rangeC 0 31 w (by decide) (by decide)
theorem r13_c (w:World):Calls Tryz.prog 204 #[.int .u8 9,.int .u8 13] w fun e w'=>e=.returned (setV (range 9 13))∧Below w.heap.size w w':=rangeC 9 13 w (by decide) (by decide)
theorem r65_c (w:World):Calls Tryz.prog 204 #[.int .u8 65,.int .u8 70] w fun e w'=>e=.returned (setV (range 65 70))∧Below w.heap.size w w':=rangeC 65 70 w (by decide) (by decide)
theorem r97_c (w:World):Calls Tryz.prog 204 #[.int .u8 97,.int .u8 102] w fun e w'=>e=.returned (setV (range 97 102))∧Below w.heap.size w w':=rangeC 97 102 w (by decide) (by decide)
theorem pun_c (w:World):Calls Tryz.prog 101 #[setV cGra,setV cAln] w fun e w'=>e=.returned (setV cPun)∧Below w.heap.size w w':=less_calls cGra cAln w
theorem xd1_c (w:World):Calls Tryz.prog 198 #[setV (range 65 70),setV (range 97 102)] w fun e w'=>e=.returned (setV (range 65 70|||range 97 102))∧Below w.heap.size w w':=or_calls _ _ w
theorem xdi_c (w:World):Calls Tryz.prog 198 #[setV cDig,setV (range 65 70|||range 97 102)] w fun e w'=>e=.returned (setV cXdi)∧Below w.heap.size w w':=or_calls cDig (range 65 70|||range 97 102) w
def tab0:Array Value:=#[.string ⟨#[]⟩,.int .u64 0,.int .u64 0,.int .u64 0,.int .u64 0,.string ⟨#[]⟩,.int .u64 0,.int .u64 0,.int .u64 0,.int .u64 0,.string ⟨#[]⟩,.int .u64 0,.int .u64 0,.int .u64 0,.int .u64 0,.string ⟨#[]⟩,.int .u64 0,.int .u64 0,.int .u64 0,.int .u64 0,.string ⟨#[]⟩,.int .u64 0,.int .u64 0,.int .u64 0,.int .u64 0,.string ⟨#[]⟩,.int .u64 0,.int .u64 0,.int .u64 0,.int .u64 0,.string ⟨#[]⟩,.int .u64 0,.int .u64 0,.int .u64 0,.int .u64 0,.string ⟨#[]⟩,.int .u64 0,.int .u64 0,.int .u64 0,.int .u64 0,.string ⟨#[]⟩,.int .u64 0,.int .u64 0,.int .u64 0,.int .u64 0,.string ⟨#[]⟩,.int .u64 0,.int .u64 0,.int .u64 0,.int .u64 0,.string ⟨#[]⟩,.int .u64 0,.int .u64 0,.int .u64 0,.int .u64 0,.string ⟨#[]⟩,.int .u64 0,.int .u64 0,.int .u64 0,.int .u64 0]
set_option maxRecDepth 100000 in
set_option maxHeartbeats 4000000 in
theorem table_calls (w:World):Calls Tryz.prog 205 #[] w fun e w'=>e=.returned (.agg tabV)∧Below w.heap.size w w':=by
 go_enter Tryz.func205,Tryz.ntmps205
 go_wp2_with fail
 have b0:=Blk.new w tab0 236;have hB0:Below w.heap.size w (w.alloc (.cells tab0 236)):=by go_grown
 have hz0:(w.alloc (.cells tab0 236)).heap.size≤w.heap.size+1∧w.heap.size+1≤(w.alloc (.cells tab0 236)).heap.size:=by simp
 have BR:=Lib.hid b0;have HB:=Lib.hid hB0;clear b0 hB0
 show Calls _ _ _ (w.alloc (.cells tab0 236)) _
 generalize w.alloc (.cells tab0 236)=w0 at*;refine (dig_c _).mono ?_;rintro e v1 ⟨rfl,hb⟩;have hz:=hb.size;have BR':=Lib.hid ((BR.out.below hb (by omega)).alloc (.cells (setA cDig) 43));have HB':=Lib.hid ((HB.out.trans (hb.mono (by omega))).alloc (by omega) (.cells (setA cDig) 43));have B1:=Lib.hid (Blk.new v1 (setA cDig) 43);clear BR HB hb;have hz1:(v1.alloc (.cells (setA cDig) 43)).heap.size≤v1.heap.size+1∧v1.heap.size+1≤(v1.alloc (.cells (setA cDig) 43)).heap.size:=by simp
 have BR:=BR';have HB:=HB';clear BR' HB'
 go_wp2_with fail
 have e0:(v1.alloc (.cells #[.int .u64 (wd cDig 0),.int .u64 (wd cDig 1),.int .u64 (wd cDig 2),.int .u64 (wd cDig 3)] 43))=v1.alloc (.cells (setA cDig) 43):=rfl;rw [e0];clear e0;generalize v1.alloc (.cells (setA cDig) 43)=w1 at*;refine (upp_c _).mono ?_;rintro e v2 ⟨rfl,hb⟩;have hz:=hb.size;have BR':=Lib.hid ((BR.out.below hb (by omega)).alloc (.cells (setA cUpp) 43));have HB':=Lib.hid ((HB.out.trans (hb.mono (by omega))).alloc (by omega) (.cells (setA cUpp) 43));have B1':=Lib.hid ((B1.out.below hb (by omega)).alloc (.cells (setA cUpp) 43));have B2:=Lib.hid (Blk.new v2 (setA cUpp) 43);clear BR HB hb B1;have hz2:(v2.alloc (.cells (setA cUpp) 43)).heap.size≤v2.heap.size+1∧v2.heap.size+1≤(v2.alloc (.cells (setA cUpp) 43)).heap.size:=by simp
 have BR:=BR';have HB:=HB';clear BR' HB';have B1:=B1';clear B1'
 go_wp2_with fail
 have e0:(v2.alloc (.cells #[.int .u64 (wd cUpp 0),.int .u64 (wd cUpp 1),.int .u64 (wd cUpp 2),.int .u64 (wd cUpp 3)] 43))=v2.alloc (.cells (setA cUpp) 43):=rfl;rw [e0];clear e0;generalize v2.alloc (.cells (setA cUpp) 43)=w2 at*;refine (low_c _).mono ?_;rintro e v3 ⟨rfl,hb⟩;have hz:=hb.size;have BR':=Lib.hid ((BR.out.below hb (by omega)).alloc (.cells (setA cLow) 43));have HB':=Lib.hid ((HB.out.trans (hb.mono (by omega))).alloc (by omega) (.cells (setA cLow) 43));have B1':=Lib.hid ((B1.out.below hb (by omega)).alloc (.cells (setA cLow) 43));have B2':=Lib.hid ((B2.out.below hb (by omega)).alloc (.cells (setA cLow) 43));have B3:=Lib.hid (Blk.new v3 (setA cLow) 43);clear BR HB hb B1 B2;have hz3:(v3.alloc (.cells (setA cLow) 43)).heap.size≤v3.heap.size+1∧v3.heap.size+1≤(v3.alloc (.cells (setA cLow) 43)).heap.size:=by simp
 have BR:=BR';have HB:=HB';clear BR' HB';have B1:=B1';clear B1';have B2:=B2';clear B2';obtain ⟨⟨c0,c1,c2,c3⟩,_⟩:=B2.out.cells4;obtain ⟨⟨d0,d1,d2,d3⟩,_⟩:=B3.out.cells4
 go_wp2_with fail
 have e0:(v3.alloc (.cells #[.int .u64 (wd cLow 0),.int .u64 (wd cLow 1),.int .u64 (wd cLow 2),.int .u64 (wd cLow 3)] 43))=v3.alloc (.cells (setA cLow) 43):=rfl;rw [e0];clear e0;generalize v3.alloc (.cells (setA cLow) 43)=w3 at*;refine (alp_c _).mono ?_;rintro e v4 ⟨rfl,hb⟩;have hz:=hb.size;have BR':=Lib.hid ((BR.out.below hb (by omega)).alloc (.cells (setA cAlp) 43));have HB':=Lib.hid ((HB.out.trans (hb.mono (by omega))).alloc (by omega) (.cells (setA cAlp) 43));have B1':=Lib.hid ((B1.out.below hb (by omega)).alloc (.cells (setA cAlp) 43));have B2':=Lib.hid ((B2.out.below hb (by omega)).alloc (.cells (setA cAlp) 43));have B3':=Lib.hid ((B3.out.below hb (by omega)).alloc (.cells (setA cAlp) 43));have B4:=Lib.hid (Blk.new v4 (setA cAlp) 43);clear BR HB hb B1 B2 B3;have hz4:(v4.alloc (.cells (setA cAlp) 43)).heap.size≤v4.heap.size+1∧v4.heap.size+1≤(v4.alloc (.cells (setA cAlp) 43)).heap.size:=by simp
 have BR:=BR';have HB:=HB';clear BR' HB';have B1:=B1';clear B1';have B2:=B2';clear B2';have B3:=B3';clear B3';clear c0 c1 c2 c3 d0 d1 d2 d3;obtain ⟨⟨c0,c1,c2,c3⟩,_⟩:=B4.out.cells4;obtain ⟨⟨d0,d1,d2,d3⟩,_⟩:=B1.out.cells4
 go_wp2_with fail
 have e0:(v4.alloc (.cells #[.int .u64 (wd cAlp 0),.int .u64 (wd cAlp 1),.int .u64 (wd cAlp 2),.int .u64 (wd cAlp 3)] 43))=v4.alloc (.cells (setA cAlp) 43):=rfl;rw [e0];clear e0;generalize v4.alloc (.cells (setA cAlp) 43)=w4 at*;refine (aln_c _).mono ?_;rintro e v5 ⟨rfl,hb⟩;have hz:=hb.size;have BR':=Lib.hid ((BR.out.below hb (by omega)).alloc (.cells (setA cAln) 43));have HB':=Lib.hid ((HB.out.trans (hb.mono (by omega))).alloc (by omega) (.cells (setA cAln) 43));have B1':=Lib.hid ((B1.out.below hb (by omega)).alloc (.cells (setA cAln) 43));have B2':=Lib.hid ((B2.out.below hb (by omega)).alloc (.cells (setA cAln) 43));have B3':=Lib.hid ((B3.out.below hb (by omega)).alloc (.cells (setA cAln) 43));have B4':=Lib.hid ((B4.out.below hb (by omega)).alloc (.cells (setA cAln) 43));have B5:=Lib.hid (Blk.new v5 (setA cAln) 43);clear BR HB hb B1 B2 B3 B4;have hz5:(v5.alloc (.cells (setA cAln) 43)).heap.size≤v5.heap.size+1∧v5.heap.size+1≤(v5.alloc (.cells (setA cAln) 43)).heap.size:=by simp
 have BR:=BR';have HB:=HB';clear BR' HB';have B1:=B1';clear B1';have B2:=B2';clear B2';have B3:=B3';clear B3';have B4:=B4';clear B4';clear c0 c1 c2 c3 d0 d1 d2 d3
 go_wp2_with fail
 have e0:(v5.alloc (.cells #[.int .u64 (wd cAln 0),.int .u64 (wd cAln 1),.int .u64 (wd cAln 2),.int .u64 (wd cAln 3)] 43))=v5.alloc (.cells (setA cAln) 43):=rfl;rw [e0];clear e0;generalize v5.alloc (.cells (setA cAln) 43)=w5 at*;refine (gra_c _).mono ?_;rintro e v6 ⟨rfl,hb⟩;have hz:=hb.size;have BR':=Lib.hid ((BR.out.below hb (by omega)).alloc (.cells (setA cGra) 43));have HB':=Lib.hid ((HB.out.trans (hb.mono (by omega))).alloc (by omega) (.cells (setA cGra) 43));have B1':=Lib.hid ((B1.out.below hb (by omega)).alloc (.cells (setA cGra) 43));have B2':=Lib.hid ((B2.out.below hb (by omega)).alloc (.cells (setA cGra) 43));have B3':=Lib.hid ((B3.out.below hb (by omega)).alloc (.cells (setA cGra) 43));have B4':=Lib.hid ((B4.out.below hb (by omega)).alloc (.cells (setA cGra) 43));have B5':=Lib.hid ((B5.out.below hb (by omega)).alloc (.cells (setA cGra) 43));have B6:=Lib.hid (Blk.new v6 (setA cGra) 43);clear BR HB hb B1 B2 B3 B4 B5;have hz6:(v6.alloc (.cells (setA cGra) 43)).heap.size≤v6.heap.size+1∧v6.heap.size+1≤(v6.alloc (.cells (setA cGra) 43)).heap.size:=by simp
 have BR:=BR';have HB:=HB';clear BR' HB';have B1:=B1';clear B1';have B2:=B2';clear B2';have B3:=B3';clear B3';have B4:=B4';clear B4';have B5:=B5';clear B5'
 go_wp2_with fail
 have e0:(v6.alloc (.cells #[.int .u64 (wd cGra 0),.int .u64 (wd cGra 1),.int .u64 (wd cGra 2),.int .u64 (wd cGra 3)] 43))=v6.alloc (.cells (setA cGra) 43):=rfl;rw [e0];clear e0;generalize v6.alloc (.cells (setA cGra) 43)=w6 at*;have hS0:Below w6.heap.size w6 w6.drew:=(Below.refl _ _).drew;refine region_stepsRM (S:=fun W=>Below w6.heap.size w6 W) (U:=UT) (V:=VT) (m:=37) rfl (by kernel_rfl) (fun _ _ hb hs=>hs.trans (hb.mono hs.size)) keepVT (by kernel_rfl) hS0 ?_;clear hS0;simp only [List.size_toArray,List.length_cons,List.length_nil,Nat.reduceAdd,Array.replicate_succ,Array.replicate_zero,List.push_toArray,List.nil_append,List.cons_append];refine AnyRM.step (i:=0) (d:=some 17) rfl rfl (by kernel_rfl) (by kernel_rfl) (by kernel_rfl) (by kernel_rfl) (by kernel_rfl) ?_ ?_ ?_
 ·exact ⟨_,rfl⟩
 ·refine StepsR.yield (setV cAln) rfl (by kernel_rfl) (fun w' hS hD=>⟨?_,trivial⟩)
  obtain ⟨⟨c0,c1,c2,c3⟩,_⟩:=(B5.out.below hS (Blk.lt B5.out)).cells4;clear hS hD;go_simp
  try rfl
 intro v' hv' a' ha';have hv':setV cAln=v':=Eq.symm hv';subst hv';simp only [Act.put,List.setIfInBounds_toArray,List.set_cons_zero,List.set_cons_succ] at ha';subst ha';refine AnyRM.step (i:=1) (d:=some 18) rfl rfl (by kernel_rfl) (by kernel_rfl) (by kernel_rfl) (by kernel_rfl) (by kernel_rfl) ?_ ?_ ?_
 ·exact ⟨_,rfl⟩
 ·refine StepsR.yield (.agg #[.string ⟨#[97,108,110,117,109]⟩,.int .u64 (wd cAln 0),.int .u64 (wd cAln 1),.int .u64 (wd cAln 2),.int .u64 (wd cAln 3)]) rfl (by kernel_rfl) (fun w' hS hD=>⟨?_,trivial⟩)
  clear hS hD;go_simp
  try rfl
 intro v' hv' a' ha';have hv':.agg #[.string ⟨#[97,108,110,117,109]⟩,.int .u64 (wd cAln 0),.int .u64 (wd cAln 1),.int .u64 (wd cAln 2),.int .u64 (wd cAln 3)]=v':=Eq.symm hv';subst hv';simp only [Act.put,List.setIfInBounds_toArray,List.set_cons_zero,List.set_cons_succ] at ha';subst ha';refine AnyRM.step (i:=2) (d:=some 19) rfl rfl (by kernel_rfl) (by kernel_rfl) (by kernel_rfl) (by kernel_rfl) (by kernel_rfl) ?_ ?_ ?_
 ·exact ⟨_,rfl⟩
 ·refine StepsR.yield (setV cAlp) rfl (by kernel_rfl) (fun w' hS hD=>⟨?_,trivial⟩)
  obtain ⟨⟨c0,c1,c2,c3⟩,_⟩:=(B4.out.below hS (Blk.lt B4.out)).cells4;clear hS hD;go_simp
  try rfl
 intro v' hv' a' ha';have hv':setV cAlp=v':=Eq.symm hv';subst hv';simp only [Act.put,List.setIfInBounds_toArray,List.set_cons_zero,List.set_cons_succ] at ha';subst ha';refine AnyRM.step (i:=3) (d:=some 20) rfl rfl (by kernel_rfl) (by kernel_rfl) (by kernel_rfl) (by kernel_rfl) (by kernel_rfl) ?_ ?_ ?_
 ·exact ⟨_,rfl⟩
 ·refine StepsR.yield (.agg #[.string ⟨#[97,108,112,104,97]⟩,.int .u64 (wd cAlp 0),.int .u64 (wd cAlp 1),.int .u64 (wd cAlp 2),.int .u64 (wd cAlp 3)]) rfl (by kernel_rfl) (fun w' hS hD=>⟨?_,trivial⟩)
  clear hS hD;go_simp
  try rfl
 intro v' hv' a' ha';have hv':.agg #[.string ⟨#[97,108,112,104,97]⟩,.int .u64 (wd cAlp 0),.int .u64 (wd cAlp 1),.int .u64 (wd cAlp 2),.int .u64 (wd cAlp 3)]=v':=Eq.symm hv';subst hv';simp only [Act.put,List.setIfInBounds_toArray,List.set_cons_zero,List.set_cons_succ] at ha';subst ha';refine AnyRM.step (i:=4) (d:=some 21) rfl rfl (by kernel_rfl) (by kernel_rfl) (by kernel_rfl) (by kernel_rfl) (by kernel_rfl) ?_ ?_ ?_
 ·exact ⟨_,rfl⟩
 ·refine StepsR.yield (setV 0) rfl (by kernel_rfl) (fun w' hS hD=>⟨?_,trivial⟩)
  clear hS hD;go_simp;exact ⟨rfl,rfl,rfl,rfl⟩
 intro v' hv' a' ha';have hv':setV 0=v':=Eq.symm hv';subst hv';simp only [Act.put,List.setIfInBounds_toArray,List.set_cons_zero,List.set_cons_succ] at ha';subst ha';refine AnyRM.step (i:=5) (d:=some 22) rfl rfl (by kernel_rfl) (by kernel_rfl) (by kernel_rfl) (by kernel_rfl) (by kernel_rfl) ?_ ?_ ?_
 ·exact ⟨_,none,rfl⟩
 ·refine StepsR.made (by kernel_rfl) (fun w' hS hD=>?_)
  clear hS hD;refine ⟨.slice (some ⟨w'.heap.size,0,none⟩) 2 2,w'.alloc (.cells (byW [9,32]) 5),?_,⟨_,rfl⟩,bytes_new w' _ [9,32],by go_grown⟩
  go_simp
  try rfl
 rintro v' ⟨a5,rfl⟩ a' ha';simp only [Act.put,List.setIfInBounds_toArray,List.set_cons_zero,List.set_cons_succ] at ha';subst ha';refine AnyRM.step (i:=6) (d:=some 23) rfl rfl (by kernel_rfl) (by kernel_rfl) (by kernel_rfl) (by kernel_rfl) (by kernel_rfl) ?_ ?_ ?_
 ·exact ⟨_,rfl⟩
 ·refine StepsR.call (by kernel_rfl) (fun w' hS=>by clear hS;go_simp) (fun w' hS hD=>(with_calls' 0 a5 2 2 [9,32] (by decide) w' (hD.get (k:=5) (by kernel_rfl) rfl rfl)).mono ?_)
  rintro e w'' ⟨rfl,hb⟩;exact ⟨_,rfl,rfl,trivial,hb⟩
 intro v' hv' a' ha';have hv':setV cBla=v':=Eq.symm hv';subst hv';simp only [Act.put,List.setIfInBounds_toArray,List.set_cons_zero,List.set_cons_succ] at ha';subst ha';refine AnyRM.step (i:=7) (d:=some 24) rfl rfl (by kernel_rfl) (by kernel_rfl) (by kernel_rfl) (by kernel_rfl) (by kernel_rfl) ?_ ?_ ?_
 ·exact ⟨_,rfl⟩
 ·refine StepsR.yield (.agg #[.string ⟨#[98,108,97,110,107]⟩,.int .u64 (wd cBla 0),.int .u64 (wd cBla 1),.int .u64 (wd cBla 2),.int .u64 (wd cBla 3)]) rfl (by kernel_rfl) (fun w' hS hD=>⟨?_,trivial⟩)
  clear hS hD;go_simp
  try rfl
 intro v' hv' a' ha';have hv':.agg #[.string ⟨#[98,108,97,110,107]⟩,.int .u64 (wd cBla 0),.int .u64 (wd cBla 1),.int .u64 (wd cBla 2),.int .u64 (wd cBla 3)]=v':=Eq.symm hv';subst hv';simp only [Act.put,List.setIfInBounds_toArray,List.set_cons_zero,List.set_cons_succ] at ha';subst ha';refine AnyRM.step (i:=8) (d:=some 25) rfl rfl (by kernel_rfl) (by kernel_rfl) (by kernel_rfl) (by kernel_rfl) (by kernel_rfl) ?_ ?_ ?_
 ·exact ⟨_,rfl⟩
 ·refine StepsR.call (by kernel_rfl) (fun w' hS=>by clear hS;go_simp) (fun w' hS hD=>(r31_c w').mono ?_)
  rintro e w'' ⟨rfl,hb⟩;exact ⟨_,rfl,rfl,trivial,hb⟩
 intro v' hv' a' ha';have hv':setV (range 0 31)=v':=Eq.symm hv';subst hv';simp only [Act.put,List.setIfInBounds_toArray,List.set_cons_zero,List.set_cons_succ] at ha';subst ha';refine AnyRM.step (i:=9) (d:=some 26) rfl rfl (by kernel_rfl) (by kernel_rfl) (by kernel_rfl) (by kernel_rfl) (by kernel_rfl) ?_ ?_ ?_
 ·exact ⟨_,none,rfl⟩
 ·refine StepsR.made (by kernel_rfl) (fun w' hS hD=>?_)
  clear hS hD;refine ⟨.slice (some ⟨w'.heap.size,0,none⟩) 1 1,w'.alloc (.cells (byW [127]) 5),?_,⟨_,rfl⟩,bytes_new w' _ [127],by go_grown⟩
  go_simp
  try rfl
 rintro v' ⟨a9,rfl⟩ a' ha';simp only [Act.put,List.setIfInBounds_toArray,List.set_cons_zero,List.set_cons_succ] at ha';subst ha';refine AnyRM.step (i:=10) (d:=some 27) rfl rfl (by kernel_rfl) (by kernel_rfl) (by kernel_rfl) (by kernel_rfl) (by kernel_rfl) ?_ ?_ ?_
 ·exact ⟨_,rfl⟩
 ·refine StepsR.call (by kernel_rfl) (fun w' hS=>by clear hS;go_simp) (fun w' hS hD=>(with_calls' (range 0 31) a9 1 1 [127] (by decide) w' (hD.get (k:=9) (by kernel_rfl) rfl rfl)).mono ?_)
  rintro e w'' ⟨rfl,hb⟩;exact ⟨_,rfl,rfl,trivial,hb⟩
 intro v' hv' a' ha';have hv':setV cCnt=v':=Eq.symm hv';subst hv';simp only [Act.put,List.setIfInBounds_toArray,List.set_cons_zero,List.set_cons_succ] at ha';subst ha';refine AnyRM.step (i:=11) (d:=some 28) rfl rfl (by kernel_rfl) (by kernel_rfl) (by kernel_rfl) (by kernel_rfl) (by kernel_rfl) ?_ ?_ ?_
 ·exact ⟨_,rfl⟩
 ·refine StepsR.yield (.agg #[.string ⟨#[99,110,116,114,108]⟩,.int .u64 (wd cCnt 0),.int .u64 (wd cCnt 1),.int .u64 (wd cCnt 2),.int .u64 (wd cCnt 3)]) rfl (by kernel_rfl) (fun w' hS hD=>⟨?_,trivial⟩)
  clear hS hD;go_simp
  try rfl
 intro v' hv' a' ha';have hv':.agg #[.string ⟨#[99,110,116,114,108]⟩,.int .u64 (wd cCnt 0),.int .u64 (wd cCnt 1),.int .u64 (wd cCnt 2),.int .u64 (wd cCnt 3)]=v':=Eq.symm hv';subst hv';simp only [Act.put,List.setIfInBounds_toArray,List.set_cons_zero,List.set_cons_succ] at ha';subst ha';refine AnyRM.step (i:=12) (d:=some 29) rfl rfl (by kernel_rfl) (by kernel_rfl) (by kernel_rfl) (by kernel_rfl) (by kernel_rfl) ?_ ?_ ?_
 ·exact ⟨_,rfl⟩
 ·refine StepsR.yield (setV cDig) rfl (by kernel_rfl) (fun w' hS hD=>⟨?_,trivial⟩)
  obtain ⟨⟨c0,c1,c2,c3⟩,_⟩:=(B1.out.below hS (Blk.lt B1.out)).cells4;clear hS hD;go_simp
  try rfl
 intro v' hv' a' ha';have hv':setV cDig=v':=Eq.symm hv';subst hv';simp only [Act.put,List.setIfInBounds_toArray,List.set_cons_zero,List.set_cons_succ] at ha';subst ha';refine AnyRM.step (i:=13) (d:=some 30) rfl rfl (by kernel_rfl) (by kernel_rfl) (by kernel_rfl) (by kernel_rfl) (by kernel_rfl) ?_ ?_ ?_
 ·exact ⟨_,rfl⟩
 ·refine StepsR.yield (.agg #[.string ⟨#[100,105,103,105,116]⟩,.int .u64 (wd cDig 0),.int .u64 (wd cDig 1),.int .u64 (wd cDig 2),.int .u64 (wd cDig 3)]) rfl (by kernel_rfl) (fun w' hS hD=>⟨?_,trivial⟩)
  clear hS hD;go_simp
  try rfl
 intro v' hv' a' ha';have hv':.agg #[.string ⟨#[100,105,103,105,116]⟩,.int .u64 (wd cDig 0),.int .u64 (wd cDig 1),.int .u64 (wd cDig 2),.int .u64 (wd cDig 3)]=v':=Eq.symm hv';subst hv';simp only [Act.put,List.setIfInBounds_toArray,List.set_cons_zero,List.set_cons_succ] at ha';subst ha';refine AnyRM.step (i:=14) (d:=some 31) rfl rfl (by kernel_rfl) (by kernel_rfl) (by kernel_rfl) (by kernel_rfl) (by kernel_rfl) ?_ ?_ ?_
 ·exact ⟨_,rfl⟩
 ·refine StepsR.yield (setV cGra) rfl (by kernel_rfl) (fun w' hS hD=>⟨?_,trivial⟩)
  obtain ⟨⟨c0,c1,c2,c3⟩,_⟩:=(B6.out.below hS (Blk.lt B6.out)).cells4;clear hS hD;go_simp
  try rfl
 intro v' hv' a' ha';have hv':setV cGra=v':=Eq.symm hv';subst hv';simp only [Act.put,List.setIfInBounds_toArray,List.set_cons_zero,List.set_cons_succ] at ha';subst ha';refine AnyRM.step (i:=15) (d:=some 32) rfl rfl (by kernel_rfl) (by kernel_rfl) (by kernel_rfl) (by kernel_rfl) (by kernel_rfl) ?_ ?_ ?_
 ·exact ⟨_,rfl⟩
 ·refine StepsR.yield (.agg #[.string ⟨#[103,114,97,112,104]⟩,.int .u64 (wd cGra 0),.int .u64 (wd cGra 1),.int .u64 (wd cGra 2),.int .u64 (wd cGra 3)]) rfl (by kernel_rfl) (fun w' hS hD=>⟨?_,trivial⟩)
  clear hS hD;go_simp
  try rfl
 intro v' hv' a' ha';have hv':.agg #[.string ⟨#[103,114,97,112,104]⟩,.int .u64 (wd cGra 0),.int .u64 (wd cGra 1),.int .u64 (wd cGra 2),.int .u64 (wd cGra 3)]=v':=Eq.symm hv';subst hv';simp only [Act.put,List.setIfInBounds_toArray,List.set_cons_zero,List.set_cons_succ] at ha';subst ha';refine AnyRM.step (i:=16) (d:=some 33) rfl rfl (by kernel_rfl) (by kernel_rfl) (by kernel_rfl) (by kernel_rfl) (by kernel_rfl) ?_ ?_ ?_
 ·exact ⟨_,rfl⟩
 ·refine StepsR.yield (setV cLow) rfl (by kernel_rfl) (fun w' hS hD=>⟨?_,trivial⟩)
  obtain ⟨⟨c0,c1,c2,c3⟩,_⟩:=(B3.out.below hS (Blk.lt B3.out)).cells4;clear hS hD;go_simp
  try rfl
 intro v' hv' a' ha';have hv':setV cLow=v':=Eq.symm hv';subst hv';simp only [Act.put,List.setIfInBounds_toArray,List.set_cons_zero,List.set_cons_succ] at ha';subst ha';refine AnyRM.step (i:=17) (d:=some 34) rfl rfl (by kernel_rfl) (by kernel_rfl) (by kernel_rfl) (by kernel_rfl) (by kernel_rfl) ?_ ?_ ?_
 ·exact ⟨_,rfl⟩
 ·refine StepsR.yield (.agg #[.string ⟨#[108,111,119,101,114]⟩,.int .u64 (wd cLow 0),.int .u64 (wd cLow 1),.int .u64 (wd cLow 2),.int .u64 (wd cLow 3)]) rfl (by kernel_rfl) (fun w' hS hD=>⟨?_,trivial⟩)
  clear hS hD;go_simp
  try rfl
 intro v' hv' a' ha';have hv':.agg #[.string ⟨#[108,111,119,101,114]⟩,.int .u64 (wd cLow 0),.int .u64 (wd cLow 1),.int .u64 (wd cLow 2),.int .u64 (wd cLow 3)]=v':=Eq.symm hv';subst hv';simp only [Act.put,List.setIfInBounds_toArray,List.set_cons_zero,List.set_cons_succ] at ha';subst ha';refine AnyRM.step (i:=18) (d:=some 35) rfl rfl (by kernel_rfl) (by kernel_rfl) (by kernel_rfl) (by kernel_rfl) (by kernel_rfl) ?_ ?_ ?_
 ·exact ⟨_,rfl⟩
 ·refine StepsR.call (by kernel_rfl) (fun w' hS=>by clear hS;go_simp) (fun w' hS hD=>(pri_c w').mono ?_)
  rintro e w'' ⟨rfl,hb⟩;exact ⟨_,rfl,rfl,trivial,hb⟩
 intro v' hv' a' ha';have hv':setV cPri=v':=Eq.symm hv';subst hv';simp only [Act.put,List.setIfInBounds_toArray,List.set_cons_zero,List.set_cons_succ] at ha';subst ha';refine AnyRM.step (i:=19) (d:=some 36) rfl rfl (by kernel_rfl) (by kernel_rfl) (by kernel_rfl) (by kernel_rfl) (by kernel_rfl) ?_ ?_ ?_
 ·exact ⟨_,rfl⟩
 ·refine StepsR.yield (.agg #[.string ⟨#[112,114,105,110,116]⟩,.int .u64 (wd cPri 0),.int .u64 (wd cPri 1),.int .u64 (wd cPri 2),.int .u64 (wd cPri 3)]) rfl (by kernel_rfl) (fun w' hS hD=>⟨?_,trivial⟩)
  clear hS hD;go_simp
  try rfl
 intro v' hv' a' ha';have hv':.agg #[.string ⟨#[112,114,105,110,116]⟩,.int .u64 (wd cPri 0),.int .u64 (wd cPri 1),.int .u64 (wd cPri 2),.int .u64 (wd cPri 3)]=v':=Eq.symm hv';subst hv';simp only [Act.put,List.setIfInBounds_toArray,List.set_cons_zero,List.set_cons_succ] at ha';subst ha';refine AnyRM.step (i:=20) (d:=some 37) rfl rfl (by kernel_rfl) (by kernel_rfl) (by kernel_rfl) (by kernel_rfl) (by kernel_rfl) ?_ ?_ ?_
 ·exact ⟨_,rfl⟩
 ·refine StepsR.yield (setV cGra) rfl (by kernel_rfl) (fun w' hS hD=>⟨?_,trivial⟩)
  obtain ⟨⟨c0,c1,c2,c3⟩,_⟩:=(B6.out.below hS (Blk.lt B6.out)).cells4;clear hS hD;go_simp
  try rfl
 intro v' hv' a' ha';have hv':setV cGra=v':=Eq.symm hv';subst hv';simp only [Act.put,List.setIfInBounds_toArray,List.set_cons_zero,List.set_cons_succ] at ha';subst ha';refine AnyRM.step (i:=21) (d:=some 38) rfl rfl (by kernel_rfl) (by kernel_rfl) (by kernel_rfl) (by kernel_rfl) (by kernel_rfl) ?_ ?_ ?_
 ·exact ⟨_,rfl⟩
 ·refine StepsR.yield (setV cAln) rfl (by kernel_rfl) (fun w' hS hD=>⟨?_,trivial⟩)
  obtain ⟨⟨c0,c1,c2,c3⟩,_⟩:=(B5.out.below hS (Blk.lt B5.out)).cells4;clear hS hD;go_simp
  try rfl
 intro v' hv' a' ha';have hv':setV cAln=v':=Eq.symm hv';subst hv';simp only [Act.put,List.setIfInBounds_toArray,List.set_cons_zero,List.set_cons_succ] at ha';subst ha';refine AnyRM.step (i:=22) (d:=some 39) rfl rfl (by kernel_rfl) (by kernel_rfl) (by kernel_rfl) (by kernel_rfl) (by kernel_rfl) ?_ ?_ ?_
 ·exact ⟨_,rfl⟩
 ·refine StepsR.call (by kernel_rfl) (fun w' hS=>by clear hS;go_simp) (fun w' hS hD=>(pun_c w').mono ?_)
  rintro e w'' ⟨rfl,hb⟩;exact ⟨_,rfl,rfl,trivial,hb⟩
 intro v' hv' a' ha';have hv':setV cPun=v':=Eq.symm hv';subst hv';simp only [Act.put,List.setIfInBounds_toArray,List.set_cons_zero,List.set_cons_succ] at ha';subst ha';refine AnyRM.step (i:=23) (d:=some 40) rfl rfl (by kernel_rfl) (by kernel_rfl) (by kernel_rfl) (by kernel_rfl) (by kernel_rfl) ?_ ?_ ?_
 ·exact ⟨_,rfl⟩
 ·refine StepsR.yield (.agg #[.string ⟨#[112,117,110,99,116]⟩,.int .u64 (wd cPun 0),.int .u64 (wd cPun 1),.int .u64 (wd cPun 2),.int .u64 (wd cPun 3)]) rfl (by kernel_rfl) (fun w' hS hD=>⟨?_,trivial⟩)
  clear hS hD;go_simp
  try rfl
 intro v' hv' a' ha';have hv':.agg #[.string ⟨#[112,117,110,99,116]⟩,.int .u64 (wd cPun 0),.int .u64 (wd cPun 1),.int .u64 (wd cPun 2),.int .u64 (wd cPun 3)]=v':=Eq.symm hv';subst hv';simp only [Act.put,List.setIfInBounds_toArray,List.set_cons_zero,List.set_cons_succ] at ha';subst ha';refine AnyRM.step (i:=24) (d:=some 41) rfl rfl (by kernel_rfl) (by kernel_rfl) (by kernel_rfl) (by kernel_rfl) (by kernel_rfl) ?_ ?_ ?_
 ·exact ⟨_,rfl⟩
 ·refine StepsR.call (by kernel_rfl) (fun w' hS=>by clear hS;go_simp) (fun w' hS hD=>(r13_c w').mono ?_)
  rintro e w'' ⟨rfl,hb⟩;exact ⟨_,rfl,rfl,trivial,hb⟩
 intro v' hv' a' ha';have hv':setV (range 9 13)=v':=Eq.symm hv';subst hv';simp only [Act.put,List.setIfInBounds_toArray,List.set_cons_zero,List.set_cons_succ] at ha';subst ha';refine AnyRM.step (i:=25) (d:=some 42) rfl rfl (by kernel_rfl) (by kernel_rfl) (by kernel_rfl) (by kernel_rfl) (by kernel_rfl) ?_ ?_ ?_
 ·exact ⟨_,none,rfl⟩
 ·refine StepsR.made (by kernel_rfl) (fun w' hS hD=>?_)
  clear hS hD;refine ⟨.slice (some ⟨w'.heap.size,0,none⟩) 1 1,w'.alloc (.cells (byW [32]) 5),?_,⟨_,rfl⟩,bytes_new w' _ [32],by go_grown⟩
  go_simp
  try rfl
 rintro v' ⟨a25,rfl⟩ a' ha';simp only [Act.put,List.setIfInBounds_toArray,List.set_cons_zero,List.set_cons_succ] at ha';subst ha';refine AnyRM.step (i:=26) (d:=some 43) rfl rfl (by kernel_rfl) (by kernel_rfl) (by kernel_rfl) (by kernel_rfl) (by kernel_rfl) ?_ ?_ ?_
 ·exact ⟨_,rfl⟩
 ·refine StepsR.call (by kernel_rfl) (fun w' hS=>by clear hS;go_simp) (fun w' hS hD=>(with_calls' (range 9 13) a25 1 1 [32] (by decide) w' (hD.get (k:=25) (by kernel_rfl) rfl rfl)).mono ?_)
  rintro e w'' ⟨rfl,hb⟩;exact ⟨_,rfl,rfl,trivial,hb⟩
 intro v' hv' a' ha';have hv':setV cSpa=v':=Eq.symm hv';subst hv';simp only [Act.put,List.setIfInBounds_toArray,List.set_cons_zero,List.set_cons_succ] at ha';subst ha';refine AnyRM.step (i:=27) (d:=some 44) rfl rfl (by kernel_rfl) (by kernel_rfl) (by kernel_rfl) (by kernel_rfl) (by kernel_rfl) ?_ ?_ ?_
 ·exact ⟨_,rfl⟩
 ·refine StepsR.yield (.agg #[.string ⟨#[115,112,97,99,101]⟩,.int .u64 (wd cSpa 0),.int .u64 (wd cSpa 1),.int .u64 (wd cSpa 2),.int .u64 (wd cSpa 3)]) rfl (by kernel_rfl) (fun w' hS hD=>⟨?_,trivial⟩)
  clear hS hD;go_simp
  try rfl
 intro v' hv' a' ha';have hv':.agg #[.string ⟨#[115,112,97,99,101]⟩,.int .u64 (wd cSpa 0),.int .u64 (wd cSpa 1),.int .u64 (wd cSpa 2),.int .u64 (wd cSpa 3)]=v':=Eq.symm hv';subst hv';simp only [Act.put,List.setIfInBounds_toArray,List.set_cons_zero,List.set_cons_succ] at ha';subst ha';refine AnyRM.step (i:=28) (d:=some 45) rfl rfl (by kernel_rfl) (by kernel_rfl) (by kernel_rfl) (by kernel_rfl) (by kernel_rfl) ?_ ?_ ?_
 ·exact ⟨_,rfl⟩
 ·refine StepsR.yield (setV cUpp) rfl (by kernel_rfl) (fun w' hS hD=>⟨?_,trivial⟩)
  obtain ⟨⟨c0,c1,c2,c3⟩,_⟩:=(B2.out.below hS (Blk.lt B2.out)).cells4;clear hS hD;go_simp
  try rfl
 intro v' hv' a' ha';have hv':setV cUpp=v':=Eq.symm hv';subst hv';simp only [Act.put,List.setIfInBounds_toArray,List.set_cons_zero,List.set_cons_succ] at ha';subst ha';refine AnyRM.step (i:=29) (d:=some 46) rfl rfl (by kernel_rfl) (by kernel_rfl) (by kernel_rfl) (by kernel_rfl) (by kernel_rfl) ?_ ?_ ?_
 ·exact ⟨_,rfl⟩
 ·refine StepsR.yield (.agg #[.string ⟨#[117,112,112,101,114]⟩,.int .u64 (wd cUpp 0),.int .u64 (wd cUpp 1),.int .u64 (wd cUpp 2),.int .u64 (wd cUpp 3)]) rfl (by kernel_rfl) (fun w' hS hD=>⟨?_,trivial⟩)
  clear hS hD;go_simp
  try rfl
 intro v' hv' a' ha';have hv':.agg #[.string ⟨#[117,112,112,101,114]⟩,.int .u64 (wd cUpp 0),.int .u64 (wd cUpp 1),.int .u64 (wd cUpp 2),.int .u64 (wd cUpp 3)]=v':=Eq.symm hv';subst hv';simp only [Act.put,List.setIfInBounds_toArray,List.set_cons_zero,List.set_cons_succ] at ha';subst ha';refine AnyRM.step (i:=30) (d:=some 47) rfl rfl (by kernel_rfl) (by kernel_rfl) (by kernel_rfl) (by kernel_rfl) (by kernel_rfl) ?_ ?_ ?_
 ·exact ⟨_,rfl⟩
 ·refine StepsR.yield (setV cDig) rfl (by kernel_rfl) (fun w' hS hD=>⟨?_,trivial⟩)
  obtain ⟨⟨c0,c1,c2,c3⟩,_⟩:=(B1.out.below hS (Blk.lt B1.out)).cells4;clear hS hD;go_simp
  try rfl
 intro v' hv' a' ha';have hv':setV cDig=v':=Eq.symm hv';subst hv';simp only [Act.put,List.setIfInBounds_toArray,List.set_cons_zero,List.set_cons_succ] at ha';subst ha';refine AnyRM.step (i:=31) (d:=some 48) rfl rfl (by kernel_rfl) (by kernel_rfl) (by kernel_rfl) (by kernel_rfl) (by kernel_rfl) ?_ ?_ ?_
 ·exact ⟨_,rfl⟩
 ·refine StepsR.call (by kernel_rfl) (fun w' hS=>by clear hS;go_simp) (fun w' hS hD=>(r65_c w').mono ?_)
  rintro e w'' ⟨rfl,hb⟩;exact ⟨_,rfl,rfl,trivial,hb⟩
 intro v' hv' a' ha';have hv':setV (range 65 70)=v':=Eq.symm hv';subst hv';simp only [Act.put,List.setIfInBounds_toArray,List.set_cons_zero,List.set_cons_succ] at ha';subst ha';refine AnyRM.step (i:=32) (d:=some 49) rfl rfl (by kernel_rfl) (by kernel_rfl) (by kernel_rfl) (by kernel_rfl) (by kernel_rfl) ?_ ?_ ?_
 ·exact ⟨_,rfl⟩
 ·refine StepsR.call (by kernel_rfl) (fun w' hS=>by clear hS;go_simp) (fun w' hS hD=>(r97_c w').mono ?_)
  rintro e w'' ⟨rfl,hb⟩;exact ⟨_,rfl,rfl,trivial,hb⟩
 intro v' hv' a' ha';have hv':setV (range 97 102)=v':=Eq.symm hv';subst hv';simp only [Act.put,List.setIfInBounds_toArray,List.set_cons_zero,List.set_cons_succ] at ha';subst ha';refine AnyRM.step (i:=33) (d:=some 50) rfl rfl (by kernel_rfl) (by kernel_rfl) (by kernel_rfl) (by kernel_rfl) (by kernel_rfl) ?_ ?_ ?_
 ·exact ⟨_,rfl⟩
 ·refine StepsR.call (by kernel_rfl) (fun w' hS=>by clear hS;go_simp) (fun w' hS hD=>(xd1_c w').mono ?_)
  rintro e w'' ⟨rfl,hb⟩;exact ⟨_,rfl,rfl,trivial,hb⟩
 intro v' hv' a' ha';have hv':setV (range 65 70|||range 97 102)=v':=Eq.symm hv';subst hv';simp only [Act.put,List.setIfInBounds_toArray,List.set_cons_zero,List.set_cons_succ] at ha';subst ha';refine AnyRM.step (i:=34) (d:=some 51) rfl rfl (by kernel_rfl) (by kernel_rfl) (by kernel_rfl) (by kernel_rfl) (by kernel_rfl) ?_ ?_ ?_
 ·exact ⟨_,rfl⟩
 ·refine StepsR.call (by kernel_rfl) (fun w' hS=>by clear hS;go_simp) (fun w' hS hD=>(xdi_c w').mono ?_)
  rintro e w'' ⟨rfl,hb⟩;exact ⟨_,rfl,rfl,trivial,hb⟩
 intro v' hv' a' ha';have hv':setV cXdi=v':=Eq.symm hv';subst hv';simp only [Act.put,List.setIfInBounds_toArray,List.set_cons_zero,List.set_cons_succ] at ha';subst ha';refine AnyRM.step (i:=35) (d:=some 52) rfl rfl (by kernel_rfl) (by kernel_rfl) (by kernel_rfl) (by kernel_rfl) (by kernel_rfl) ?_ ?_ ?_
 ·exact ⟨_,rfl⟩
 ·refine StepsR.yield (.agg #[.string ⟨#[120,100,105,103,105,116]⟩,.int .u64 (wd cXdi 0),.int .u64 (wd cXdi 1),.int .u64 (wd cXdi 2),.int .u64 (wd cXdi 3)]) rfl (by kernel_rfl) (fun w' hS hD=>⟨?_,trivial⟩)
  clear hS hD;go_simp
  try rfl
 intro v' hv' a' ha';have hv':.agg #[.string ⟨#[120,100,105,103,105,116]⟩,.int .u64 (wd cXdi 0),.int .u64 (wd cXdi 1),.int .u64 (wd cXdi 2),.int .u64 (wd cXdi 3)]=v':=Eq.symm hv';subst hv';simp only [Act.put,List.setIfInBounds_toArray,List.set_cons_zero,List.set_cons_succ] at ha';subst ha';refine AnyRM.step (i:=36) (d:=some 53) rfl rfl (by kernel_rfl) (by kernel_rfl) (by kernel_rfl) (by kernel_rfl) (by kernel_rfl) ?_ ?_ ?_
 ·exact ⟨_,rfl⟩
 ·refine StepsR.yield (.agg tabV) rfl (by kernel_rfl) (fun w' hS hD=>⟨?_,trivial⟩)
  clear hS hD;go_simp
  try rfl
 intro v' hv' a' ha';have hv':.agg tabV=v':=Eq.symm hv';subst hv';simp only [Act.put,List.setIfInBounds_toArray,List.set_cons_zero,List.set_cons_succ] at ha';subst ha';refine AnyRM.last rfl (by kernel_rfl) (by kernel_rfl) (by kernel_rfl) (fun w9 hS hF K hK=>?_);clear hF;have hR:=BR.out.below hS (Blk.lt BR.out);have hst:=run_storeAt_row (P:=Tryz.prog) w9 w.heap.size 236 236 tab0 tabV hR (by kernel_rfl) (by decide) tabV_one;have hB:=HB.out.trans (hS.mono (by omega));refine wp_store_row _ _ _ rfl w.heap.size rfl rfl hst ?_;clear hst;refine hK _ _ ?_;clear hK K;have hR':=Lib.hid (Blk.setRow (cs:=tabV) hR);have hB':=Lib.hid (below_setRow hB (Nat.le_refl _) tabV);clear hR hB hS;generalize w9.setRow w.heap.size tabV=w10 at*
 go_wp2
 exact bodyPost_ret (v:=.agg tabV) (results_cell_row rfl _ _ w.heap.size 236 tabV (0,0) _ rfl hR'.out Tryz.underlying236 rfl (by kernel_rfl)) rfl ⟨rfl,hB'.out⟩
end Go.Proofs.YtbccojjcdcighaaGreatDoor

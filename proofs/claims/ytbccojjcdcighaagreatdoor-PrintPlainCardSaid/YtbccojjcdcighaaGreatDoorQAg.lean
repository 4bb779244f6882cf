/- Texts put together: Vr. -/
import Derived.Test.YtbccojjcdcighaaGreatDoorQAb
import Derived.Test.YtbccojjcdcighaaGreatDoorQAe
import Derived.Test.YtbccojjcdcighaaGreatDoorQO
import Derived.Test.YtbccojjcdcighaaGreatDoorQC
import Derived.BigQuiet
import Derived.Outline
import Derived.Deep.QuietTactic
import Derived.Deep.DeepCutAuto
namespace Go.Proofs.YtbccojjcdcighaaGreatDoor
open Go.RowKit BS
@[reducible] def woI (k a e:Int) (t:BitVec 256) (n m:Int):Array Value:=#[.int .i64 k,.int .i64 a,.int .i64 e,.int .u64 (wd t 0),.int .u64 (wd t 1),.int .u64 (wd t 2),.int .u64 (wd t 3),.int .i64 n,.int .i64 m]
def woA (w:WN):Array Value:=woI w.kind w.pos w.fin w.set w.n w.m
theorem infoWo:(Tryz.prog.info? 91).map (·.size)=some 9:=by kernel_rfl
theorem wo_one (k a e:Int) (t:BitVec 256) (n m:Int):((woI k a e t n m).all fun x=>x.oneCell')=true:=by simp [Value.oneCell']
theorem infoSe:(Tryz.prog.info? 43).map (·.size)=some 4:=by kernel_rfl
theorem se_one (t:BitVec 256):((setA t).all fun x=>x.oneCell')=true:=by simp [setA,Value.oneCell']
theorem results_cell2 {P:Program} {fn:Func} {p a b:Tmp} {ty:TypeId} (h:fn.results=#[.cell p ty,.tmp a,.tmp b]) (tmps:Array Value) (w:World) (g:Nat) (t:TypeId) (cs:Array Value) (fr:Nat×Nat) (d:TypeDesc)
 (hp:tmps.getD p undef=.pointer (some ⟨g,0,none⟩)) (hg:w.heap[g]? =some (.cells cs t fr))
 (hu:P.underlying ty=some d) (hd:(match d with|.struct _|.array _ _=>true|_=>false)=true) (hi:(P.info? ty).map (·.size)=some cs.size):
 (results fn tmps).run P w=.ok (.tuple #[.agg cs,tmps.getD a undef,tmps.getD b undef]) w:=by
 have hp':tmps[p]?.getD undef=.pointer (some ⟨g,0,none⟩):=by simpa using hp
 simp [results,h,hp',asAddr,run_loadVar_row w g t ty cs fr d hg hu hd hi]
theorem four14_no (b k:Nat) (hk:14≤k) (h:∀j,j<k→bt (ofT l14) j≠b):four14 b=false:=by
 unfold four14;rw [Bool.eq_false_iff];intro hc;have hm:=List.contains_iff_mem.1 hc;obtain ⟨j,hj,e⟩:=List.getElem_of_mem hm;have hj':j<14:=hj;exact h j (by omega) (by rw [bt_ofT l14 (by decide) j hj,e])
theorem four14_yes (b k:Nat) (hk:k<14) (h:bt (ofT l14) k=b):four14 b=true:=by
 unfold four14;rw [bt_ofT l14 (by decide) k hk] at h;exact List.contains_iff_mem.2 (h ▸ List.getElem_mem hk)
set_option maxRecDepth 100000 in
set_option maxHeartbeats 2000000 in
theorem fourteen_calls (b:Nat) (w:World):Calls Tryz.prog 62 #[.int .u8 b] w fun en w'=>en=.returned (.bool (four14 b))∧w=w':=by
 have hz:(ofT l14).size=14:=rfl;have HN:=Lib.hid (four14_no b);have HY:=Lib.hid (four14_yes b);go_enter Tryz.func62,Tryz.ntmps62
 go_wp2_with fail
 have e0:(⟨#[46,91,93,92,40,41,42,43,63,123,125,124,94,36]⟩:ByteArray)=ofT l14:=rfl;rw [e0];clear e0;generalize ofT l14=L at*
 go_loop [4] (fun x=>∃k:Nat,k≤14∧x=.int .i64 k∧∀j,j<k→bt L j≠b) (fun x=>14 - (intOf x).toNat)
 case atStart=>exact ⟨0,by omega,rfl,fun j hj=>by omega⟩
 case round=>
  obtain ⟨k,hk,rfl,hno⟩:=hrel;have HO:=Lib.hid hno;clear hno
  by_cases hlt:k<14
  ·have hd:decide (k<14)=true:=by simpa using hlt
   have hb:L[k].toNat=bt L k:=(bt_eq L k (by omega)).symm
   by_cases he:bt L k=b
   ·have HR:=Lib.hid (HY.out k hlt he)
    have q:((bt L k:Int)==(b:Int))=true:=by rw [beq_iff_eq];omega
    clear HN HY he
    go_wp2_with fail
    go_ret;exact ⟨by rw [HR.out]<;>rfl,rfl⟩
   ·have q:((bt L k:Int)==(b:Int))=false:=by rw [beq_eq_false_iff_ne];omega
    have HE:=Lib.hid he;clear he
    go_wp2_with fail
    go_round
    case rel=>
     refine ⟨k+1,by omega,by simp,fun j hj=>?_⟩
     by_cases hjk:j=k
     ·subst hjk;exact HE.out
     ·exact HO.out j (by omega)
    case measure=>simp [intOf];omega
  ·have HR:=Lib.hid (HN.out k (by omega) HO.out)
   have hd:decide (k<14)=false:=by simpa using hlt
   clear HN HY
   go_wp2_with fail
   go_ret;exact ⟨by rw [HR.out]<;>rfl,rfl⟩
set_option maxRecDepth 100000 in
set_option maxHeartbeats 1000000 in
theorem oneW_calls (t:BitVec 256) (a e:Int) (w:World):Calls Tryz.prog 92 #[setV t,.int .i64 a,.int .i64 e] w fun en w'=>en=.returned (.agg (woI 1 a e t 0 0))∧Below w.heap.size w w':=by
 have HC:=Blk.new w (setA t) 43;have HR:=Blk.new (w.alloc (.cells (setA t) 43)) (woI 0 0 0 0 0 0) 91;rw [World.size_alloc] at HR;have HC2:=HC.alloc (.cells (woI 0 0 0 0 0 0) 91);have HB:Below w.heap.size w ((w.alloc (.cells (setA t) 43)).alloc (.cells (woI 0 0 0 0 0 0) 91)):=by go_grown
 go_enter Tryz.func92,Tryz.ntmps92
 go_upto_region 1 with fail
 have e0:(w.alloc (.cells #[.int .u64 (wd t 0),.int .u64 (wd t 1),.int .u64 (wd t 2),.int .u64 (wd t 3)] 43)).alloc (.cells #[.int .i64 0,.int .i64 0,.int .i64 0,.int .u64 0,.int .u64 0,.int .u64 0,.int .u64 0,.int .i64 0,.int .i64 0] 91)=(w.alloc (.cells (setA t) 43)).alloc (.cells (woI 0 0 0 0 0 0) 91):=rfl;rw [e0];clear e0 HC;generalize (w.alloc (.cells (setA t) 43)).alloc (.cells (woI 0 0 0 0 0 0) 91)=w1 at*;obtain ⟨⟨c0,c1,c2,c3⟩,_⟩:=HC2.cells4
 go_wp2_with ((with_reducible refine wpList_store_st (o:=⟨none,.store 91 _ _,_,_,_,_⟩) rfl 91 _ _ rfl (w.heap.size+1) rfl rfl (run_storeAt_row _ (w.heap.size+1) 91 91 (woI 0 0 0 0 0 0) (woI 1 a e t 0 0) ?_ ?_ ?_ ?_) ?_);exact HR;exact infoWo;rfl;exact wo_one _ _ _ _ _ _)
 exact bodyPost_ret (v:=.agg (woI 1 a e t 0 0)) (results_cell_row rfl _ _ (w.heap.size+1) 91 (woI 1 a e t 0 0) (0,0) _ rfl (Blk.setRow HR) Tryz.underlying91 rfl infoWo) rfl ⟨rfl,below_row HB (by omega) _⟩
set_option maxRecDepth 100000 in
set_option maxHeartbeats 1000000 in
theorem byteW_calls (b:Nat) (hb:b<256) (w:World):Calls Tryz.prog 94 #[.int .u8 b] w fun en w'=>en=.returned (setV (range b b))∧Below w.heap.size w w':=by
 have HR:=Lib.hid (fun w=>rrange_calls b b w hb hb);generalize range b b=t at*;have x:IntKind.i64.wrap (b:Int)=b:=IntWalk.i64_in _ (by omega);go_enter Tryz.func94,Tryz.ntmps94
 go_upto_region 1 with fail
 have e0:w.alloc (.cells #[.int .u64 0,.int .u64 0,.int .u64 0,.int .u64 0] 43)=w.alloc (.cells (setA 0) 43):=rfl;rw [e0];clear e0;have HC:=Blk.new w (setA 0) 43;have HB:Below w.heap.size w (w.alloc (.cells (setA 0) 43)):=by go_grown
 have hz:w.heap.size+1≤(w.alloc (.cells (setA 0) 43)).heap.size:=by simp
 generalize w.alloc (.cells (setA 0) 43)=w1 at*
 go_wp2_with fail
 refine (HR.out _).mono ?_;rintro en w2 ⟨rfl,hb2⟩;have HC2:=HC.below hb2 HC.lt;have HB2:=HB.trans (hb2.mono (by omega));clear HC HB hz HR
 go_wp2_with ((with_reducible refine wpList_store_st (o:=⟨none,.store 43 _ _,_,_,_,_⟩) rfl 43 _ _ rfl w.heap.size rfl rfl (run_storeAt_row _ w.heap.size 43 43 (setA 0) (setA t) ?_ ?_ ?_ ?_) ?_);exact HC2;exact infoSe;rfl;exact se_one _)
 exact bodyPost_ret (v:=.agg (setA t)) (results_cell_row rfl _ _ w.heap.size 43 (setA t) (0,0) _ rfl (Blk.setRow HC2) Tryz.underlying43 rfl infoSe) rfl ⟨rfl,below_row HB2 (Nat.le_refl _) _⟩
set_option maxRecDepth 100000 in
set_option maxHeartbeats 16000000 in
theorem rNext_calls (s:ByteArray) (hs:s.size≤1000000) (at':Int) (w:World):
 Calls Tryz.prog 67 #[.string s,.int .i64 at'] w fun en w'=>en=.returned (.tuple #[.agg (woA (nextN s at').1),.int .i64 (nextN s at').2.1,.int .i64 (nextN s at').2.2])∧Below w.heap.size w w':=by
 have HR:=Lib.hid (Blk.new w (woI 0 0 0 0 0 0) 91);have HB:Hid (Below w.heap.size w (w.alloc (.cells (woI 0 0 0 0 0 0) 91))):=Lib.hid (by go_grown);have hz:w.heap.size+1≤(w.alloc (.cells (woI 0 0 0 0 0 0) 91)).heap.size:=by simp
 have hg:nextN s at'=nextN s at':=rfl
 conv at hg=>rhs;unfold nextN
 by_cases hat:at'<0∨(s.size:Int)≤at'
 ·rw [if_pos hat] at hg
  rw [hg];clear hg
  by_cases h0:at'<0
  ·have q0:decide (at'<0)=true:=by simpa using h0
   clear hat h0;go_enter Tryz.func67,Tryz.ntmps67
   go_upto_region 1 with fail
   have e0:w.alloc (.cells #[.int .i64 0,.int .i64 0,.int .i64 0,.int .u64 0,.int .u64 0,.int .u64 0,.int .u64 0,.int .i64 0,.int .i64 0] 91)=w.alloc (.cells (woI 0 0 0 0 0 0) 91):=rfl;rw [e0];clear e0;generalize w.alloc (.cells (woI 0 0 0 0 0 0) 91)=w1 at*
   go_wp2_with ((with_reducible refine wpList_store_st (o:=⟨none,.store 91 _ _,_,_,_,_⟩) rfl 91 _ _ rfl w.heap.size rfl rfl (run_storeAt_row _ w.heap.size 91 91 (woI 0 0 0 0 0 0) (woI 0 0 0 0 0 0) ?_ ?_ ?_ ?_) ?_);exact HR.out;exact infoWo;rfl;exact wo_one _ _ _ _ _ _)
   exact bodyPost_ret (v:=.tuple #[.agg (woI 0 0 0 0 0 0),.int .i64 1,.int .i64 0]) (results_cell2 Tryz.results67 _ _ w.heap.size 91 (woI 0 0 0 0 0 0) (0,0) _ rfl (Blk.setRow HR.out) Tryz.underlying91 rfl infoWo) rfl ⟨rfl,below_row HB.out (Nat.le_refl _) _⟩
  ·have q0:decide (at'<0)=false:=by simpa using h0
   have q1:decide ((s.size:Int)≤at')=true:=by rw [decide_eq_true_iff];omega
   clear hat;go_enter Tryz.func67,Tryz.ntmps67
   go_upto_region 1 with fail
   have e0:w.alloc (.cells #[.int .i64 0,.int .i64 0,.int .i64 0,.int .u64 0,.int .u64 0,.int .u64 0,.int .u64 0,.int .i64 0,.int .i64 0] 91)=w.alloc (.cells (woI 0 0 0 0 0 0) 91):=rfl;rw [e0];clear e0;generalize w.alloc (.cells (woI 0 0 0 0 0 0) 91)=w1 at*
   go_wp2_with ((with_reducible refine wpList_store_st (o:=⟨none,.store 91 _ _,_,_,_,_⟩) rfl 91 _ _ rfl w.heap.size rfl rfl (run_storeAt_row _ w.heap.size 91 91 (woI 0 0 0 0 0 0) (woI 0 0 0 0 0 0) ?_ ?_ ?_ ?_) ?_);exact HR.out;exact infoWo;rfl;exact wo_one _ _ _ _ _ _)
   exact bodyPost_ret (v:=.tuple #[.agg (woI 0 0 0 0 0 0),.int .i64 1,.int .i64 0]) (results_cell2 Tryz.results67 _ _ w.heap.size 91 (woI 0 0 0 0 0 0) (0,0) _ rfl (Blk.setRow HR.out) Tryz.underlying91 rfl infoWo) rfl ⟨rfl,below_row HB.out (Nat.le_refl _) _⟩
 rw [if_neg hat] at hg;obtain ⟨a,rfl⟩:∃a:Nat,at'=a:=⟨at'.toNat,by omega⟩;rw [show (a:Int).toNat=a from rfl] at hg;rw [hg];have hlt:a<s.size:=by omega
 clear hat hg;have b0:s[a].toNat=bt s a:=(bt_eq s a hlt).symm;have hb256:=bt_lt s a;have hg:nextA s a=nextA s a:=rfl
 conv at hg=>rhs;unfold nextA
 generalize hB:bt s a=b at*;generalize nextA s a=Y at*
 by_cases h40:b=40
 ·subst h40
  obtain rfl:Y=(⟨2,a,a+1,0,0,0⟩,0,0):=hg.trans (if_pos rfl);clear hg;go_enter Tryz.func67,Tryz.ntmps67
  go_upto_region 1 with fail
  have e0:w.alloc (.cells #[.int .i64 0,.int .i64 0,.int .i64 0,.int .u64 0,.int .u64 0,.int .u64 0,.int .u64 0,.int .i64 0,.int .i64 0] 91)=w.alloc (.cells (woI 0 0 0 0 0 0) 91):=rfl;rw [e0];clear e0;generalize w.alloc (.cells (woI 0 0 0 0 0 0) 91)=w1 at*
  go_wp2_with ((with_reducible refine wpList_store_st (o:=⟨none,.store 91 _ _,_,_,_,_⟩) rfl 91 _ _ rfl w.heap.size rfl rfl (run_storeAt_row _ w.heap.size 91 91 (woI 0 0 0 0 0 0) (woI 2 a ((a:Int)+1) 0 0 0) ?_ ?_ ?_ ?_) ?_);exact HR.out;exact infoWo;rfl;exact wo_one _ _ _ _ _ _)
  exact bodyPost_ret (v:=.tuple #[.agg (woI 2 a ((a:Int)+1) 0 0 0),.int .i64 0,.int .i64 0]) (results_cell2 Tryz.results67 _ _ w.heap.size 91 (woI 2 a ((a:Int)+1) 0 0 0) (0,0) _ rfl (Blk.setRow HR.out) Tryz.underlying91 rfl infoWo) rfl ⟨rfl,below_row HB.out (Nat.le_refl _) _⟩
 rw [if_neg h40] at hg;have q40:((b:Int)==40)=false:=by rw [beq_eq_false_iff_ne];omega
 by_cases h41:b=41
 ·subst h41
  obtain rfl:Y=(⟨3,a,a+1,0,0,0⟩,0,0):=hg.trans (if_pos rfl);clear hg;go_enter Tryz.func67,Tryz.ntmps67
  go_upto_region 1 with fail
  have e0:w.alloc (.cells #[.int .i64 0,.int .i64 0,.int .i64 0,.int .u64 0,.int .u64 0,.int .u64 0,.int .u64 0,.int .i64 0,.int .i64 0] 91)=w.alloc (.cells (woI 0 0 0 0 0 0) 91):=rfl;rw [e0];clear e0;generalize w.alloc (.cells (woI 0 0 0 0 0 0) 91)=w1 at*
  go_wp2_with ((with_reducible refine wpList_store_st (o:=⟨none,.store 91 _ _,_,_,_,_⟩) rfl 91 _ _ rfl w.heap.size rfl rfl (run_storeAt_row _ w.heap.size 91 91 (woI 0 0 0 0 0 0) (woI 3 a ((a:Int)+1) 0 0 0) ?_ ?_ ?_ ?_) ?_);exact HR.out;exact infoWo;rfl;exact wo_one _ _ _ _ _ _)
  exact bodyPost_ret (v:=.tuple #[.agg (woI 3 a ((a:Int)+1) 0 0 0),.int .i64 0,.int .i64 0]) (results_cell2 Tryz.results67 _ _ w.heap.size 91 (woI 3 a ((a:Int)+1) 0 0 0) (0,0) _ rfl (Blk.setRow HR.out) Tryz.underlying91 rfl infoWo) rfl ⟨rfl,below_row HB.out (Nat.le_refl _) _⟩
 rw [if_neg h41] at hg;have q41:((b:Int)==41)=false:=by rw [beq_eq_false_iff_ne];omega
 by_cases h124:b=124
 ·subst h124
  obtain rfl:Y=(⟨4,a,a+1,0,0,0⟩,0,0):=hg.trans (if_pos rfl);clear hg;go_enter Tryz.func67,Tryz.ntmps67
  go_upto_region 1 with fail
  have e0:w.alloc (.cells #[.int .i64 0,.int .i64 0,.int .i64 0,.int .u64 0,.int .u64 0,.int .u64 0,.int .u64 0,.int .i64 0,.int .i64 0] 91)=w.alloc (.cells (woI 0 0 0 0 0 0) 91):=rfl;rw [e0];clear e0;generalize w.alloc (.cells (woI 0 0 0 0 0 0) 91)=w1 at*
  go_wp2_with ((with_reducible refine wpList_store_st (o:=⟨none,.store 91 _ _,_,_,_,_⟩) rfl 91 _ _ rfl w.heap.size rfl rfl (run_storeAt_row _ w.heap.size 91 91 (woI 0 0 0 0 0 0) (woI 4 a ((a:Int)+1) 0 0 0) ?_ ?_ ?_ ?_) ?_);exact HR.out;exact infoWo;rfl;exact wo_one _ _ _ _ _ _)
  exact bodyPost_ret (v:=.tuple #[.agg (woI 4 a ((a:Int)+1) 0 0 0),.int .i64 0,.int .i64 0]) (results_cell2 Tryz.results67 _ _ w.heap.size 91 (woI 4 a ((a:Int)+1) 0 0 0) (0,0) _ rfl (Blk.setRow HR.out) Tryz.underlying91 rfl infoWo) rfl ⟨rfl,below_row HB.out (Nat.le_refl _) _⟩
 rw [if_neg h124] at hg;have q124:((b:Int)==124)=false:=by rw [beq_eq_false_iff_ne];omega
 by_cases h4:b=42∨b=43∨b=63∨b=123
 ·rw [if_pos h4] at hg
  have hC:=readN_calls s hs a;unfold cntW at hg;generalize readN s a=Z at*;obtain ⟨n,m,p,e,k⟩:=Z;simp only at hg;have HC:Hid (∀w,Calls Tryz.prog 90 #[.string s,.int .i64 a] w fun e' w'=>e'=.returned (.tuple #[.int .i64 n,.int .i64 m,.int .i64 p,.int .i64 e,.int .i64 k])∧w=w'):=Lib.hid hC;clear hC hB;rcases (by omega:b=42∨b=43∨b=63∨b=123) with rfl|rfl|rfl|rfl
  ·by_cases he:e=0
   ·subst he
    obtain rfl:Y=(⟨5,a,p,0,n,m⟩,0,0):=hg.trans (if_neg (by decide));clear hg;go_enter Tryz.func67,Tryz.ntmps67
    go_upto_region 1 with fail
    have e0:w.alloc (.cells #[.int .i64 0,.int .i64 0,.int .i64 0,.int .u64 0,.int .u64 0,.int .u64 0,.int .u64 0,.int .i64 0,.int .i64 0] 91)=w.alloc (.cells (woI 0 0 0 0 0 0) 91):=rfl;rw [e0];clear e0;generalize w.alloc (.cells (woI 0 0 0 0 0 0) 91)=w1 at*
    go_wp2_with fail
    refine (HC.out _).mono ?_;rintro en w2 ⟨rfl,rfl⟩;clear HC
    go_wp2_with ((with_reducible refine wpList_store_st (o:=⟨none,.store 91 _ _,_,_,_,_⟩) rfl 91 _ _ rfl w.heap.size rfl rfl (run_storeAt_row _ w.heap.size 91 91 (woI 0 0 0 0 0 0) (woI 5 a p 0 n m) ?_ ?_ ?_ ?_) ?_);exact HR.out;exact infoWo;rfl;exact wo_one _ _ _ _ _ _)
    exact bodyPost_ret (v:=.tuple #[.agg (woI 5 a p 0 n m),.int .i64 0,.int .i64 0]) (results_cell2 Tryz.results67 _ _ w.heap.size 91 (woI 5 a p 0 n m) (0,0) _ rfl (Blk.setRow HR.out) Tryz.underlying91 rfl infoWo) rfl ⟨rfl,below_row HB.out (Nat.le_refl _) _⟩
   ·have qe:((e:Int) !=0)=true:=by rw [bne_iff_ne];omega
    obtain rfl:Y=(zWN,e,k):=hg.trans (if_pos he);clear hg;go_enter Tryz.func67,Tryz.ntmps67
    go_upto_region 1 with fail
    have e0:w.alloc (.cells #[.int .i64 0,.int .i64 0,.int .i64 0,.int .u64 0,.int .u64 0,.int .u64 0,.int .u64 0,.int .i64 0,.int .i64 0] 91)=w.alloc (.cells (woI 0 0 0 0 0 0) 91):=rfl;rw [e0];clear e0;generalize w.alloc (.cells (woI 0 0 0 0 0 0) 91)=w1 at*
    go_wp2_with fail
    refine (HC.out _).mono ?_;rintro en w2 ⟨rfl,rfl⟩;clear HC
    go_wp2_with ((with_reducible refine wpList_store_st (o:=⟨none,.store 91 _ _,_,_,_,_⟩) rfl 91 _ _ rfl w.heap.size rfl rfl (run_storeAt_row _ w.heap.size 91 91 (woI 0 0 0 0 0 0) (woI 0 0 0 0 0 0) ?_ ?_ ?_ ?_) ?_);exact HR.out;exact infoWo;rfl;exact wo_one _ _ _ _ _ _)
    exact bodyPost_ret (v:=.tuple #[.agg (woI 0 0 0 0 0 0),.int .i64 e,.int .i64 k]) (results_cell2 Tryz.results67 _ _ w.heap.size 91 (woI 0 0 0 0 0 0) (0,0) _ rfl (Blk.setRow HR.out) Tryz.underlying91 rfl infoWo) rfl ⟨rfl,below_row HB.out (Nat.le_refl _) _⟩
  ·by_cases he:e=0
   ·subst he
    obtain rfl:Y=(⟨5,a,p,0,n,m⟩,0,0):=hg.trans (if_neg (by decide));clear hg;go_enter Tryz.func67,Tryz.ntmps67
    go_upto_region 1 with fail
    have e0:w.alloc (.cells #[.int .i64 0,.int .i64 0,.int .i64 0,.int .u64 0,.int .u64 0,.int .u64 0,.int .u64 0,.int .i64 0,.int .i64 0] 91)=w.alloc (.cells (woI 0 0 0 0 0 0) 91):=rfl;rw [e0];clear e0;generalize w.alloc (.cells (woI 0 0 0 0 0 0) 91)=w1 at*
    go_wp2_with fail
    refine (HC.out _).mono ?_;rintro en w2 ⟨rfl,rfl⟩;clear HC
    go_wp2_with ((with_reducible refine wpList_store_st (o:=⟨none,.store 91 _ _,_,_,_,_⟩) rfl 91 _ _ rfl w.heap.size rfl rfl (run_storeAt_row _ w.heap.size 91 91 (woI 0 0 0 0 0 0) (woI 5 a p 0 n m) ?_ ?_ ?_ ?_) ?_);exact HR.out;exact infoWo;rfl;exact wo_one _ _ _ _ _ _)
    exact bodyPost_ret (v:=.tuple #[.agg (woI 5 a p 0 n m),.int .i64 0,.int .i64 0]) (results_cell2 Tryz.results67 _ _ w.heap.size 91 (woI 5 a p 0 n m) (0,0) _ rfl (Blk.setRow HR.out) Tryz.underlying91 rfl infoWo) rfl ⟨rfl,below_row HB.out (Nat.le_refl _) _⟩
   ·have qe:((e:Int) !=0)=true:=by rw [bne_iff_ne];omega
    obtain rfl:Y=(zWN,e,k):=hg.trans (if_pos he);clear hg;go_enter Tryz.func67,Tryz.ntmps67
    go_upto_region 1 with fail
    have e0:w.alloc (.cells #[.int .i64 0,.int .i64 0,.int .i64 0,.int .u64 0,.int .u64 0,.int .u64 0,.int .u64 0,.int .i64 0,.int .i64 0] 91)=w.alloc (.cells (woI 0 0 0 0 0 0) 91):=rfl;rw [e0];clear e0;generalize w.alloc (.cells (woI 0 0 0 0 0 0) 91)=w1 at*
    go_wp2_with fail
    refine (HC.out _).mono ?_;rintro en w2 ⟨rfl,rfl⟩;clear HC
    go_wp2_with ((with_reducible refine wpList_store_st (o:=⟨none,.store 91 _ _,_,_,_,_⟩) rfl 91 _ _ rfl w.heap.size rfl rfl (run_storeAt_row _ w.heap.size 91 91 (woI 0 0 0 0 0 0) (woI 0 0 0 0 0 0) ?_ ?_ ?_ ?_) ?_);exact HR.out;exact infoWo;rfl;exact wo_one _ _ _ _ _ _)
    exact bodyPost_ret (v:=.tuple #[.agg (woI 0 0 0 0 0 0),.int .i64 e,.int .i64 k]) (results_cell2 Tryz.results67 _ _ w.heap.size 91 (woI 0 0 0 0 0 0) (0,0) _ rfl (Blk.setRow HR.out) Tryz.underlying91 rfl infoWo) rfl ⟨rfl,below_row HB.out (Nat.le_refl _) _⟩
  ·by_cases he:e=0
   ·subst he
    obtain rfl:Y=(⟨5,a,p,0,n,m⟩,0,0):=hg.trans (if_neg (by decide));clear hg;go_enter Tryz.func67,Tryz.ntmps67
    go_upto_region 1 with fail
    have e0:w.alloc (.cells #[.int .i64 0,.int .i64 0,.int .i64 0,.int .u64 0,.int .u64 0,.int .u64 0,.int .u64 0,.int .i64 0,.int .i64 0] 91)=w.alloc (.cells (woI 0 0 0 0 0 0) 91):=rfl;rw [e0];clear e0;generalize w.alloc (.cells (woI 0 0 0 0 0 0) 91)=w1 at*
    go_wp2_with fail
    refine (HC.out _).mono ?_;rintro en w2 ⟨rfl,rfl⟩;clear HC
    go_wp2_with ((with_reducible refine wpList_store_st (o:=⟨none,.store 91 _ _,_,_,_,_⟩) rfl 91 _ _ rfl w.heap.size rfl rfl (run_storeAt_row _ w.heap.size 91 91 (woI 0 0 0 0 0 0) (woI 5 a p 0 n m) ?_ ?_ ?_ ?_) ?_);exact HR.out;exact infoWo;rfl;exact wo_one _ _ _ _ _ _)
    exact bodyPost_ret (v:=.tuple #[.agg (woI 5 a p 0 n m),.int .i64 0,.int .i64 0]) (results_cell2 Tryz.results67 _ _ w.heap.size 91 (woI 5 a p 0 n m) (0,0) _ rfl (Blk.setRow HR.out) Tryz.underlying91 rfl infoWo) rfl ⟨rfl,below_row HB.out (Nat.le_refl _) _⟩
   ·have qe:((e:Int) !=0)=true:=by rw [bne_iff_ne];omega
    obtain rfl:Y=(zWN,e,k):=hg.trans (if_pos he);clear hg;go_enter Tryz.func67,Tryz.ntmps67
    go_upto_region 1 with fail
    have e0:w.alloc (.cells #[.int .i64 0,.int .i64 0,.int .i64 0,.int .u64 0,.int .u64 0,.int .u64 0,.int .u64 0,.int .i64 0,.int .i64 0] 91)=w.alloc (.cells (woI 0 0 0 0 0 0) 91):=rfl;rw [e0];clear e0;generalize w.alloc (.cells (woI 0 0 0 0 0 0) 91)=w1 at*
    go_wp2_with fail
    refine (HC.out _).mono ?_;rintro en w2 ⟨rfl,rfl⟩;clear HC
    go_wp2_with ((with_reducible refine wpList_store_st (o:=⟨none,.store 91 _ _,_,_,_,_⟩) rfl 91 _ _ rfl w.heap.size rfl rfl (run_storeAt_row _ w.heap.size 91 91 (woI 0 0 0 0 0 0) (woI 0 0 0 0 0 0) ?_ ?_ ?_ ?_) ?_);exact HR.out;exact infoWo;rfl;exact wo_one _ _ _ _ _ _)
    exact bodyPost_ret (v:=.tuple #[.agg (woI 0 0 0 0 0 0),.int .i64 e,.int .i64 k]) (results_cell2 Tryz.results67 _ _ w.heap.size 91 (woI 0 0 0 0 0 0) (0,0) _ rfl (Blk.setRow HR.out) Tryz.underlying91 rfl infoWo) rfl ⟨rfl,below_row HB.out (Nat.le_refl _) _⟩
  ·by_cases he:e=0
   ·subst he
    obtain rfl:Y=(⟨5,a,p,0,n,m⟩,0,0):=hg.trans (if_neg (by decide));clear hg;go_enter Tryz.func67,Tryz.ntmps67
    go_upto_region 1 with fail
    have e0:w.alloc (.cells #[.int .i64 0,.int .i64 0,.int .i64 0,.int .u64 0,.int .u64 0,.int .u64 0,.int .u64 0,.int .i64 0,.int .i64 0] 91)=w.alloc (.cells (woI 0 0 0 0 0 0) 91):=rfl;rw [e0];clear e0;generalize w.alloc (.cells (woI 0 0 0 0 0 0) 91)=w1 at*
    go_wp2_with fail
    refine (HC.out _).mono ?_;rintro en w2 ⟨rfl,rfl⟩;clear HC
    go_wp2_with ((with_reducible refine wpList_store_st (o:=⟨none,.store 91 _ _,_,_,_,_⟩) rfl 91 _ _ rfl w.heap.size rfl rfl (run_storeAt_row _ w.heap.size 91 91 (woI 0 0 0 0 0 0) (woI 5 a p 0 n m) ?_ ?_ ?_ ?_) ?_);exact HR.out;exact infoWo;rfl;exact wo_one _ _ _ _ _ _)
    exact bodyPost_ret (v:=.tuple #[.agg (woI 5 a p 0 n m),.int .i64 0,.int .i64 0]) (results_cell2 Tryz.results67 _ _ w.heap.size 91 (woI 5 a p 0 n m) (0,0) _ rfl (Blk.setRow HR.out) Tryz.underlying91 rfl infoWo) rfl ⟨rfl,below_row HB.out (Nat.le_refl _) _⟩
   ·have qe:((e:Int) !=0)=true:=by rw [bne_iff_ne];omega
    obtain rfl:Y=(zWN,e,k):=hg.trans (if_pos he);clear hg;go_enter Tryz.func67,Tryz.ntmps67
    go_upto_region 1 with fail
    have e0:w.alloc (.cells #[.int .i64 0,.int .i64 0,.int .i64 0,.int .u64 0,.int .u64 0,.int .u64 0,.int .u64 0,.int .i64 0,.int .i64 0] 91)=w.alloc (.cells (woI 0 0 0 0 0 0) 91):=rfl;rw [e0];clear e0;generalize w.alloc (.cells (woI 0 0 0 0 0 0) 91)=w1 at*
    go_wp2_with fail
    refine (HC.out _).mono ?_;rintro en w2 ⟨rfl,rfl⟩;clear HC
    go_wp2_with ((with_reducible refine wpList_store_st (o:=⟨none,.store 91 _ _,_,_,_,_⟩) rfl 91 _ _ rfl w.heap.size rfl rfl (run_storeAt_row _ w.heap.size 91 91 (woI 0 0 0 0 0 0) (woI 0 0 0 0 0 0) ?_ ?_ ?_ ?_) ?_);exact HR.out;exact infoWo;rfl;exact wo_one _ _ _ _ _ _)
    exact bodyPost_ret (v:=.tuple #[.agg (woI 0 0 0 0 0 0),.int .i64 e,.int .i64 k]) (results_cell2 Tryz.results67 _ _ w.heap.size 91 (woI 0 0 0 0 0 0) (0,0) _ rfl (Blk.setRow HR.out) Tryz.underlying91 rfl infoWo) rfl ⟨rfl,below_row HB.out (Nat.le_refl _) _⟩
 rw [if_neg h4] at hg;have q42:((b:Int)==42)=false:=by rw [beq_eq_false_iff_ne];omega
 have q43:((b:Int)==43)=false:=by rw [beq_eq_false_iff_ne];omega
 have q63:((b:Int)==63)=false:=by rw [beq_eq_false_iff_ne];omega
 have q123:((b:Int)==123)=false:=by rw [beq_eq_false_iff_ne];omega
 by_cases h91:b=91
 ·subst h91
  rw [if_pos rfl] at hg;have hC:=rRead_calls s hs a;unfold brkW at hg;generalize readR s a=Z at*;obtain ⟨t,p,e,k⟩:=Z;simp only at hg;have HC:Hid (∀w,Calls Tryz.prog 91 #[.string s,.int .i64 a] w fun e' w'=>e'=.returned (.tuple #[setV t,.int .i64 p,.int .i64 e,.int .i64 k])∧Below w.heap.size w w'):=Lib.hid hC;have HO:=Lib.hid (oneW_calls t a p);clear hC hB
  by_cases he:e=0
  ·subst he
   obtain rfl:Y=(oneW t a p,0,0):=hg.trans (if_neg (by decide));clear hg;go_enter Tryz.func67,Tryz.ntmps67
   go_upto_region 1 with fail
   have e0:w.alloc (.cells #[.int .i64 0,.int .i64 0,.int .i64 0,.int .u64 0,.int .u64 0,.int .u64 0,.int .u64 0,.int .i64 0,.int .i64 0] 91)=w.alloc (.cells (woI 0 0 0 0 0 0) 91):=rfl;rw [e0];clear e0;generalize w.alloc (.cells (woI 0 0 0 0 0 0) 91)=w1 at*
   go_wp2_with fail
   refine (HC.out _).mono ?_;rintro en w2 ⟨rfl,hb⟩;have HR2:=Lib.hid (HR.out.below hb (Blk.lt HR.out));have HB2:=Lib.hid (HB.out.trans (hb.mono (by omega)));have hz2:=Nat.le_trans hz hb.size;clear HR HB hz hb;have HR:=HR2;have HB:=HB2;have hz:=hz2;clear HR2 HB2 hz2;clear HC
   go_upto_region 20 with fail
   have HP:=Blk.new w2 (setA t) 43;replace HR:=Lib.hid (HR.out.alloc (.cells (setA t) 43));replace HB:=Lib.hid (HB.out.alloc (by omega) (.cells (setA t) 43));have hz2:w.heap.size+1≤(w2.alloc (.cells (setA t) 43)).heap.size:=by simp;omega
   clear hz;have hz:=hz2;clear hz2;have e0:w2.alloc (.cells #[.int .u64 (wd t 0),.int .u64 (wd t 1),.int .u64 (wd t 2),.int .u64 (wd t 3)] 43)=w2.alloc (.cells (setA t) 43):=rfl
   try rw [e0]
   clear e0;generalize w2.alloc (.cells (setA t) 43)=w3 at*;generalize w2.heap.size=B at*;obtain ⟨⟨c0,c1,c2,c3⟩,_⟩:=HP.cells4;clear HP
   go_wp2_with fail
   refine (HO.out _).mono ?_;rintro en w4 ⟨rfl,hb⟩;have HR2:=Lib.hid (HR.out.below hb (Blk.lt HR.out));have HB2:=Lib.hid (HB.out.trans (hb.mono (by omega)));have hz2:=Nat.le_trans hz hb.size;clear HR HB hz hb;have HR:=HR2;have HB:=HB2;have hz:=hz2;clear HR2 HB2 hz2;clear HO c0 c1 c2 c3
   go_wp2_with ((with_reducible refine wpList_store_st (o:=⟨none,.store 91 _ _,_,_,_,_⟩) rfl 91 _ _ rfl w.heap.size rfl rfl (run_storeAt_row _ w.heap.size 91 91 (woI 0 0 0 0 0 0) (woI 1 a p t 0 0) ?_ ?_ ?_ ?_) ?_);exact HR.out;exact infoWo;rfl;exact wo_one _ _ _ _ _ _)
   exact bodyPost_ret (v:=.tuple #[.agg (woI 1 a p t 0 0),.int .i64 0,.int .i64 0]) (results_cell2 Tryz.results67 _ _ w.heap.size 91 (woI 1 a p t 0 0) (0,0) _ rfl (Blk.setRow HR.out) Tryz.underlying91 rfl infoWo) rfl ⟨rfl,below_row HB.out (Nat.le_refl _) _⟩
  ·have qe:((e:Int) !=0)=true:=by rw [bne_iff_ne];omega
   obtain rfl:Y=(zWN,e,k):=hg.trans (if_pos he);clear hg HO;go_enter Tryz.func67,Tryz.ntmps67
   go_upto_region 1 with fail
   have e0:w.alloc (.cells #[.int .i64 0,.int .i64 0,.int .i64 0,.int .u64 0,.int .u64 0,.int .u64 0,.int .u64 0,.int .i64 0,.int .i64 0] 91)=w.alloc (.cells (woI 0 0 0 0 0 0) 91):=rfl;rw [e0];clear e0;generalize w.alloc (.cells (woI 0 0 0 0 0 0) 91)=w1 at*
   go_wp2_with fail
   refine (HC.out _).mono ?_;rintro en w2 ⟨rfl,hb⟩;have HR2:=Lib.hid (HR.out.below hb (Blk.lt HR.out));have HB2:=Lib.hid (HB.out.trans (hb.mono (by omega)));have hz2:=Nat.le_trans hz hb.size;clear HR HB hz hb;have HR:=HR2;have HB:=HB2;have hz:=hz2;clear HR2 HB2 hz2;clear HC
   go_upto_region 20 with fail
   have HP:=Blk.new w2 (setA t) 43;replace HR:=Lib.hid (HR.out.alloc (.cells (setA t) 43));replace HB:=Lib.hid (HB.out.alloc (by omega) (.cells (setA t) 43));have hz2:w.heap.size+1≤(w2.alloc (.cells (setA t) 43)).heap.size:=by simp;omega
   clear hz;have hz:=hz2;clear hz2;have e0:w2.alloc (.cells #[.int .u64 (wd t 0),.int .u64 (wd t 1),.int .u64 (wd t 2),.int .u64 (wd t 3)] 43)=w2.alloc (.cells (setA t) 43):=rfl
   try rw [e0]
   clear e0;generalize w2.alloc (.cells (setA t) 43)=w3 at*;generalize w2.heap.size=B at*;obtain ⟨⟨c0,c1,c2,c3⟩,_⟩:=HP.cells4;clear HP;clear c0 c1 c2 c3
   go_wp2_with ((with_reducible refine wpList_store_st (o:=⟨none,.store 91 _ _,_,_,_,_⟩) rfl 91 _ _ rfl w.heap.size rfl rfl (run_storeAt_row _ w.heap.size 91 91 (woI 0 0 0 0 0 0) (woI 0 0 0 0 0 0) ?_ ?_ ?_ ?_) ?_);exact HR.out;exact infoWo;rfl;exact wo_one _ _ _ _ _ _)
   exact bodyPost_ret (v:=.tuple #[.agg (woI 0 0 0 0 0 0),.int .i64 e,.int .i64 k]) (results_cell2 Tryz.results67 _ _ w.heap.size 91 (woI 0 0 0 0 0 0) (0,0) _ rfl (Blk.setRow HR.out) Tryz.underlying91 rfl infoWo) rfl ⟨rfl,below_row HB.out (Nat.le_refl _) _⟩
 rw [if_neg h91] at hg;have q91:((b:Int)==91)=false:=by rw [beq_eq_false_iff_ne];omega
 by_cases h46:b=46
 ·subst h46
  rw [if_pos rfl] at hg;have HA:=Lib.hid (fun w=>rrange_calls 0 255 w (by decide) (by decide));have HO:Hid (∀w,Calls Tryz.prog 92 #[setV (range 0 255),.int .i64 a,.int .i64 ((a:Int)+1)] w fun en w'=>en=.returned (.agg (woI 1 a ((a:Int)+1) (range 0 255) 0 0))∧Below w.heap.size w w'):=Lib.hid (oneW_calls (range 0 255) a ((a:Int)+1));generalize range 0 255=t at*;subst hg;go_enter Tryz.func67,Tryz.ntmps67
  go_upto_region 1 with fail
  have e0:w.alloc (.cells #[.int .i64 0,.int .i64 0,.int .i64 0,.int .u64 0,.int .u64 0,.int .u64 0,.int .u64 0,.int .i64 0,.int .i64 0] 91)=w.alloc (.cells (woI 0 0 0 0 0 0) 91):=rfl;rw [e0];clear e0;generalize w.alloc (.cells (woI 0 0 0 0 0 0) 91)=w1 at*
  go_wp2_with fail
  refine (HA.out _).mono ?_;rintro en w2 ⟨rfl,hb⟩;have HR2:=Lib.hid (HR.out.below hb (Blk.lt HR.out));have HB2:=Lib.hid (HB.out.trans (hb.mono (by omega)));have hz2:=Nat.le_trans hz hb.size;clear HR HB hz hb;have HR:=HR2;have HB:=HB2;have hz:=hz2;clear HR2 HB2 hz2;clear HA
  go_wp2_with fail
  refine (HO.out _).mono ?_;rintro en w4 ⟨rfl,hb⟩;have HR2:=Lib.hid (HR.out.below hb (Blk.lt HR.out));have HB2:=Lib.hid (HB.out.trans (hb.mono (by omega)));have hz2:=Nat.le_trans hz hb.size;clear HR HB hz hb;have HR:=HR2;have HB:=HB2;have hz:=hz2;clear HR2 HB2 hz2;clear HO
  go_wp2_with ((with_reducible refine wpList_store_st (o:=⟨none,.store 91 _ _,_,_,_,_⟩) rfl 91 _ _ rfl w.heap.size rfl rfl (run_storeAt_row _ w.heap.size 91 91 (woI 0 0 0 0 0 0) (woI 1 a ((a:Int)+1) t 0 0) ?_ ?_ ?_ ?_) ?_);exact HR.out;exact infoWo;rfl;exact wo_one _ _ _ _ _ _)
  exact bodyPost_ret (v:=.tuple #[.agg (woI 1 a ((a:Int)+1) t 0 0),.int .i64 0,.int .i64 0]) (results_cell2 Tryz.results67 _ _ w.heap.size 91 (woI 1 a ((a:Int)+1) t 0 0) (0,0) _ rfl (Blk.setRow HR.out) Tryz.underlying91 rfl infoWo) rfl ⟨rfl,below_row HB.out (Nat.le_refl _) _⟩
 rw [if_neg h46] at hg;have q46:((b:Int)==46)=false:=by rw [beq_eq_false_iff_ne];omega
 by_cases h94:b=94∨b=36
 ·rw [if_pos h94] at hg
  subst hg;clear hB;rcases h94 with rfl|rfl
  ·go_enter Tryz.func67,Tryz.ntmps67
   go_upto_region 1 with fail
   have e0:w.alloc (.cells #[.int .i64 0,.int .i64 0,.int .i64 0,.int .u64 0,.int .u64 0,.int .u64 0,.int .u64 0,.int .i64 0,.int .i64 0] 91)=w.alloc (.cells (woI 0 0 0 0 0 0) 91):=rfl;rw [e0];clear e0;generalize w.alloc (.cells (woI 0 0 0 0 0 0) 91)=w1 at*
   go_wp2_with ((with_reducible refine wpList_store_st (o:=⟨none,.store 91 _ _,_,_,_,_⟩) rfl 91 _ _ rfl w.heap.size rfl rfl (run_storeAt_row _ w.heap.size 91 91 (woI 0 0 0 0 0 0) (woI 0 0 0 0 0 0) ?_ ?_ ?_ ?_) ?_);exact HR.out;exact infoWo;rfl;exact wo_one _ _ _ _ _ _)
   exact bodyPost_ret (v:=.tuple #[.agg (woI 0 0 0 0 0 0),.int .i64 3,.int .i64 ((a:Int)+1)]) (results_cell2 Tryz.results67 _ _ w.heap.size 91 (woI 0 0 0 0 0 0) (0,0) _ rfl (Blk.setRow HR.out) Tryz.underlying91 rfl infoWo) rfl ⟨rfl,below_row HB.out (Nat.le_refl _) _⟩
  ·go_enter Tryz.func67,Tryz.ntmps67
   go_upto_region 1 with fail
   have e0:w.alloc (.cells #[.int .i64 0,.int .i64 0,.int .i64 0,.int .u64 0,.int .u64 0,.int .u64 0,.int .u64 0,.int .i64 0,.int .i64 0] 91)=w.alloc (.cells (woI 0 0 0 0 0 0) 91):=rfl;rw [e0];clear e0;generalize w.alloc (.cells (woI 0 0 0 0 0 0) 91)=w1 at*
   go_wp2_with ((with_reducible refine wpList_store_st (o:=⟨none,.store 91 _ _,_,_,_,_⟩) rfl 91 _ _ rfl w.heap.size rfl rfl (run_storeAt_row _ w.heap.size 91 91 (woI 0 0 0 0 0 0) (woI 0 0 0 0 0 0) ?_ ?_ ?_ ?_) ?_);exact HR.out;exact infoWo;rfl;exact wo_one _ _ _ _ _ _)
   exact bodyPost_ret (v:=.tuple #[.agg (woI 0 0 0 0 0 0),.int .i64 3,.int .i64 ((a:Int)+1)]) (results_cell2 Tryz.results67 _ _ w.heap.size 91 (woI 0 0 0 0 0 0) (0,0) _ rfl (Blk.setRow HR.out) Tryz.underlying91 rfl infoWo) rfl ⟨rfl,below_row HB.out (Nat.le_refl _) _⟩
 rw [if_neg h94] at hg;have q94:((b:Int)==94)=false:=by rw [beq_eq_false_iff_ne];omega
 have q36:((b:Int)==36)=false:=by rw [beq_eq_false_iff_ne];omega
 by_cases h92:b=92
 ·subst h92
  rw [if_pos rfl] at hg;clear hB;unfold slashW at hg
  by_cases h1:s.size≤a+1
  ·rw [if_pos h1] at hg
   subst hg;have qs:decide ((s.size:Int)≤(a:Int)+1)=true:=by rw [decide_eq_true_iff];omega
   go_enter Tryz.func67,Tryz.ntmps67
   go_upto_region 1 with fail
   have e0:w.alloc (.cells #[.int .i64 0,.int .i64 0,.int .i64 0,.int .u64 0,.int .u64 0,.int .u64 0,.int .u64 0,.int .i64 0,.int .i64 0] 91)=w.alloc (.cells (woI 0 0 0 0 0 0) 91):=rfl;rw [e0];clear e0;generalize w.alloc (.cells (woI 0 0 0 0 0 0) 91)=w1 at*
   go_wp2_with ((with_reducible refine wpList_store_st (o:=⟨none,.store 91 _ _,_,_,_,_⟩) rfl 91 _ _ rfl w.heap.size rfl rfl (run_storeAt_row _ w.heap.size 91 91 (woI 0 0 0 0 0 0) (woI 0 0 0 0 0 0) ?_ ?_ ?_ ?_) ?_);exact HR.out;exact infoWo;rfl;exact wo_one _ _ _ _ _ _)
   exact bodyPost_ret (v:=.tuple #[.agg (woI 0 0 0 0 0 0),.int .i64 2,.int .i64 s.size]) (results_cell2 Tryz.results67 _ _ w.heap.size 91 (woI 0 0 0 0 0 0) (0,0) _ rfl (Blk.setRow HR.out) Tryz.underlying91 rfl infoWo) rfl ⟨rfl,below_row HB.out (Nat.le_refl _) _⟩
  rw [if_neg h1] at hg;have qs:decide ((s.size:Int)≤(a:Int)+1)=false:=by rw [decide_eq_false_iff_not];omega
  have hlt1:a+1<s.size:=by omega
  have b1:s[a+1].toNat=bt s (a+1):=(bt_eq s (a+1) hlt1).symm;have hc256:=bt_lt s (a+1);have u1:(0:Int)≤(a:Int)+1:=by omega
  have u2:((a:Int)+1).toNat=a+1:=by omega
  have u3:(a:Int)+1<(s.size:Int):=by omega
  generalize bt s (a+1)=c at*;have HF:=Lib.hid (fourteen_calls c)
  cases hf:four14 c with
  |false=>
   rw [hf,if_pos rfl] at hg;rw [hf] at HF;subst hg;go_enter Tryz.func67,Tryz.ntmps67
   go_upto_region 1 with fail
   have e0:w.alloc (.cells #[.int .i64 0,.int .i64 0,.int .i64 0,.int .u64 0,.int .u64 0,.int .u64 0,.int .u64 0,.int .i64 0,.int .i64 0] 91)=w.alloc (.cells (woI 0 0 0 0 0 0) 91):=rfl;rw [e0];clear e0;generalize w.alloc (.cells (woI 0 0 0 0 0 0) 91)=w1 at*
   go_wp2_with fail
   refine (HF.out _).mono ?_;rintro en w2 ⟨rfl,rfl⟩;clear HF
   go_wp2_with ((with_reducible refine wpList_store_st (o:=⟨none,.store 91 _ _,_,_,_,_⟩) rfl 91 _ _ rfl w.heap.size rfl rfl (run_storeAt_row _ w.heap.size 91 91 (woI 0 0 0 0 0 0) (woI 0 0 0 0 0 0) ?_ ?_ ?_ ?_) ?_);exact HR.out;exact infoWo;rfl;exact wo_one _ _ _ _ _ _)
   exact bodyPost_ret (v:=.tuple #[.agg (woI 0 0 0 0 0 0),.int .i64 3,.int .i64 ((a:Int)+2)]) (results_cell2 Tryz.results67 _ _ w.heap.size 91 (woI 0 0 0 0 0 0) (0,0) _ rfl (Blk.setRow HR.out) Tryz.underlying91 rfl infoWo) rfl ⟨rfl,below_row HB.out (Nat.le_refl _) _⟩
  |true=>
   rw [hf,if_neg (by decide)] at hg;rw [hf] at HF;have HA:=Lib.hid (byteW_calls c hc256);have HO:Hid (∀w,Calls Tryz.prog 92 #[setV (range c c),.int .i64 a,.int .i64 ((a:Int)+2)] w fun en w'=>en=.returned (.agg (woI 1 a ((a:Int)+2) (range c c) 0 0))∧Below w.heap.size w w'):=Lib.hid (oneW_calls (range c c) a ((a:Int)+2));generalize range c c=t at*;subst hg;go_enter Tryz.func67,Tryz.ntmps67
   go_upto_region 1 with fail
   have e0:w.alloc (.cells #[.int .i64 0,.int .i64 0,.int .i64 0,.int .u64 0,.int .u64 0,.int .u64 0,.int .u64 0,.int .i64 0,.int .i64 0] 91)=w.alloc (.cells (woI 0 0 0 0 0 0) 91):=rfl;rw [e0];clear e0;generalize w.alloc (.cells (woI 0 0 0 0 0 0) 91)=w1 at*
   go_wp2_with fail
   refine (HF.out _).mono ?_;rintro en w2 ⟨rfl,rfl⟩;clear HF
   go_wp2_with fail
   refine (HA.out _).mono ?_;rintro en w2 ⟨rfl,hb⟩;have HR2:=Lib.hid (HR.out.below hb (Blk.lt HR.out));have HB2:=Lib.hid (HB.out.trans (hb.mono (by omega)));have hz2:=Nat.le_trans hz hb.size;clear HR HB hz hb;have HR:=HR2;have HB:=HB2;have hz:=hz2;clear HR2 HB2 hz2;clear HA
   go_wp2_with fail
   refine (HO.out _).mono ?_;rintro en w4 ⟨rfl,hb⟩;have HR2:=Lib.hid (HR.out.below hb (Blk.lt HR.out));have HB2:=Lib.hid (HB.out.trans (hb.mono (by omega)));have hz2:=Nat.le_trans hz hb.size;clear HR HB hz hb;have HR:=HR2;have HB:=HB2;have hz:=hz2;clear HR2 HB2 hz2;clear HO
   go_wp2_with ((with_reducible refine wpList_store_st (o:=⟨none,.store 91 _ _,_,_,_,_⟩) rfl 91 _ _ rfl w.heap.size rfl rfl (run_storeAt_row _ w.heap.size 91 91 (woI 0 0 0 0 0 0) (woI 1 a ((a:Int)+2) t 0 0) ?_ ?_ ?_ ?_) ?_);exact HR.out;exact infoWo;rfl;exact wo_one _ _ _ _ _ _)
   exact bodyPost_ret (v:=.tuple #[.agg (woI 1 a ((a:Int)+2) t 0 0),.int .i64 0,.int .i64 0]) (results_cell2 Tryz.results67 _ _ w.heap.size 91 (woI 1 a ((a:Int)+2) t 0 0) (0,0) _ rfl (Blk.setRow HR.out) Tryz.underlying91 rfl infoWo) rfl ⟨rfl,below_row HB.out (Nat.le_refl _) _⟩
 rw [if_neg h92] at hg;have q92:((b:Int)==92)=false:=by rw [beq_eq_false_iff_ne];omega
 have HA:=Lib.hid (byteW_calls b hb256);have HO:Hid (∀w,Calls Tryz.prog 92 #[setV (range b b),.int .i64 a,.int .i64 ((a:Int)+1)] w fun en w'=>en=.returned (.agg (woI 1 a ((a:Int)+1) (range b b) 0 0))∧Below w.heap.size w w'):=Lib.hid (oneW_calls (range b b) a ((a:Int)+1));generalize range b b=t at*;subst hg;clear hB h40 h41 h124 h4 h91 h46 h94 h92;go_enter Tryz.func67,Tryz.ntmps67
 go_upto_region 1 with fail
 have e0:w.alloc (.cells #[.int .i64 0,.int .i64 0,.int .i64 0,.int .u64 0,.int .u64 0,.int .u64 0,.int .u64 0,.int .i64 0,.int .i64 0] 91)=w.alloc (.cells (woI 0 0 0 0 0 0) 91):=rfl;rw [e0];clear e0;generalize w.alloc (.cells (woI 0 0 0 0 0 0) 91)=w1 at*
 go_wp2_with fail
 refine (HA.out _).mono ?_;rintro en w2 ⟨rfl,hb⟩;have HR2:=Lib.hid (HR.out.below hb (Blk.lt HR.out));have HB2:=Lib.hid (HB.out.trans (hb.mono (by omega)));have hz2:=Nat.le_trans hz hb.size;clear HR HB hz hb;have HR:=HR2;have HB:=HB2;have hz:=hz2;clear HR2 HB2 hz2;clear HA
 go_wp2_with fail
 refine (HO.out _).mono ?_;rintro en w4 ⟨rfl,hb⟩;have HR2:=Lib.hid (HR.out.below hb (Blk.lt HR.out));have HB2:=Lib.hid (HB.out.trans (hb.mono (by omega)));have hz2:=Nat.le_trans hz hb.size;clear HR HB hz hb;have HR:=HR2;have HB:=HB2;have hz:=hz2;clear HR2 HB2 hz2;clear HO
 go_wp2_with ((with_reducible refine wpList_store_st (o:=⟨none,.store 91 _ _,_,_,_,_⟩) rfl 91 _ _ rfl w.heap.size rfl rfl (run_storeAt_row _ w.heap.size 91 91 (woI 0 0 0 0 0 0) (woI 1 a ((a:Int)+1) t 0 0) ?_ ?_ ?_ ?_) ?_);exact HR.out;exact infoWo;rfl;exact wo_one _ _ _ _ _ _)
 exact bodyPost_ret (v:=.tuple #[.agg (woI 1 a ((a:Int)+1) t 0 0),.int .i64 0,.int .i64 0]) (results_cell2 Tryz.results67 _ _ w.heap.size 91 (woI 1 a ((a:Int)+1) t 0 0) (0,0) _ rfl (Blk.setRow HR.out) Tryz.underlying91 rfl infoWo) rfl ⟨rfl,below_row HB.out (Nat.le_refl _) _⟩
end Go.Proofs.YtbccojjcdcighaaGreatDoor

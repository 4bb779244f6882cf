/- Texts put together: Jc Jd Gz. -/
import Derived.Test.YtbccojjcdcighaaGreatDoorQAb
import Derived.Deep.RegionWith
import Derived.Test.YtbccojjcdcighaaGreatDoorQAc
import Derived.Test.YtbccojjcdcighaaGreatDoorQAa
import Derived.Test.YtbccojjcdcighaaGreatDoorQX
namespace Go.Proofs.YtbccojjcdcighaaGreatDoor
open Go.RowKit BS
theorem nd_zero (k c n m:Int):ndA ⟨k,c,n,m,0⟩=#[.int .i64 k,.int .i64 c,.int .i64 n,.int .i64 m,.int .u64 0,.int .u64 0,.int .u64 0,.int .u64 0]:=by
 have z0:wd (0:BitVec 256) 0=0:=by decide
 have z1:wd (0:BitVec 256) 1=0:=by decide
 have z2:wd (0:BitVec 256) 2=0:=by decide
 have z3:wd (0:BitVec 256) 3=0:=by decide
 show ndI k c n m 0=_
 unfold ndI;rw [z0,z1,z2,z3]
 rfl
set_option maxRecDepth 100000 in
set_option maxHeartbeats 4000000 in
theorem pendRow_calls {base R:Nat} {s:ByteArray} {a n r:Nat} {l:List NdN} {st:List (Nat×Nat)} {gr:Nat} {vN vL:Value} {w0:World} (w:World) (h:RdV base R s a ⟨l,(n,r)::st,gr⟩ vN vL w0 w) (hl:l.length≤4000000) (hst:st.length≤2000000) (hn:n≤2000000) (hr':r≤2000000):
 Calls Tryz.prog 49 #[.pointer (some ⟨R,0,none⟩)] w fun e w'=>e=.returned (.tuple #[])∧∃vN',RdV base R s a ⟨l++rowT n,(0,r+1)::st,gr⟩ vN' vL w0 w':=by
 have hA:=fun (nd:NdN) W vN x (h:RdV base R s a x vN vL w0 W)=>padd_calls nd W h
 obtain ⟨g,cap,rfl,hbg,hgl,hgR,hcap,t0,t1,f0,f1,_⟩:=h.top rfl;have HL:=Lib.hid (plevel_calls R g st.length cap w h.c.2.2.2.1 hst);have HR:=Lib.hid h;clear t0 t1 f0 f1 h hgl
 by_cases h0:n=0
 ·subst h0
  have hA1:=hA nd1;rw [show nd1=⟨1,0,0,0,0⟩ from rfl,nd_zero] at hA1;have HA:=Lib.hid hA1;clear hA1 hA;go_enter Tryz.func49,Tryz.ntmps49
  go_wp2_with fail
  refine HL.out.mono ?_;rintro e w3 ⟨rfl,hb⟩;clear HL;have hr:=HR.out.below hb;obtain ⟨_,_,e,_,_,_,_,t0,t1,f0,f1,_⟩:=hr.top rfl
  cases e
  clear HR hb;have HR:=Lib.hid hr;clear hr
  go_wp2_with fail
  refine (HA.out _ _ _ HR.out hl).mono ?_;rintro e w4 ⟨rfl,vN',hr⟩;clear HA HR t0 t1 f0 f1;obtain ⟨_,_,e,_,_,_,_,t0,t1,f0,f1,_⟩:=hr.top rfl
  cases e
  have HR:=Lib.hid hr;clear hr
  go_wp2_with fail
  go_end0;exact ⟨rfl,_,(HR.out.put0 rfl (r+1)).put rfl 0⟩
 by_cases h1:n=1
 ·subst h1
  clear hA;go_enter Tryz.func49,Tryz.ntmps49
  go_wp2_with fail
  refine HL.out.mono ?_;rintro e w3 ⟨rfl,hb⟩;clear HL;have hr:=HR.out.below hb;obtain ⟨_,_,e,_,_,_,_,t0,t1,f0,f1,_⟩:=hr.top rfl
  cases e
  clear HR hb;have HR:=Lib.hid hr;clear hr
  go_wp2_with fail
  go_end0;refine ⟨rfl,vN,?_⟩;rw [show l++rowT 1=l from List.append_nil l];exact (HR.out.put0 rfl (r+1)).put rfl 0
 ·have hA1:=hA (nd5 n)
  rw [show nd5 n=⟨5,n,0,0,0⟩ from rfl,nd_zero] at hA1;have HA:=Lib.hid hA1;clear hA1 hA;have q0:((n:Int)==0)=false:=by rw [beq_eq_false_iff_ne];omega
  have q1:((n:Int)==1)=false:=by rw [beq_eq_false_iff_ne];omega
  have hT:rowT n=[⟨5,n,0,0,0⟩]:=by unfold rowT;rw [if_neg h0,if_neg h1];rfl
  have HT:=Lib.hid hT;clear hT;go_enter Tryz.func49,Tryz.ntmps49
  go_wp2_with fail
  refine HL.out.mono ?_;rintro e w3 ⟨rfl,hb⟩;clear HL;have hr:=HR.out.below hb;obtain ⟨_,_,e,_,_,_,_,t0,t1,f0,f1,_⟩:=hr.top rfl
  cases e
  clear HR hb;have HR:=Lib.hid hr;clear hr
  go_wp2_with fail
  refine (HA.out _ _ _ HR.out hl).mono ?_;rintro e w4 ⟨rfl,vN',hr⟩;clear HA HR t0 t1 f0 f1;obtain ⟨_,_,e,_,_,_,_,t0,t1,f0,f1,_⟩:=hr.top rfl
  cases e
  have HR:=Lib.hid hr;clear hr
  go_wp2_with fail
  go_end0;rw [HT.out];exact ⟨rfl,_,(HR.out.put0 rfl (r+1)).put rfl 0⟩
theorem rowT_len (n:Nat):(rowT n).length≤1:=by
 unfold rowT
 by_cases h0:n=0
 ·rw [if_pos h0];exact Nat.le_refl _
 ·rw [if_neg h0]
  by_cases h1:n=1
  ·rw [if_pos h1];exact Nat.zero_le _
  ·rw [if_neg h1];exact Nat.le_refl _
theorem rowsT_len (n:Nat):(rowsT n).length≤1:=by
 unfold rowsT
 by_cases h0:1<n
 ·rw [if_pos h0];exact Nat.le_refl _
 ·rw [if_neg h0];exact Nat.zero_le _
set_option maxRecDepth 100000 in
set_option maxHeartbeats 4000000 in
theorem pendRows_calls {base R:Nat} {s:ByteArray} {a n r:Nat} {l:List NdN} {st:List (Nat×Nat)} {gr:Nat} {vN vL:Value} {w0:World} (w:World) (h:RdV base R s a ⟨l,(n,r)::st,gr⟩ vN vL w0 w) (hl:l.length≤3999999) (hst:st.length≤2000000) (hn:n≤2000000) (hr':r≤2000000):
 Calls Tryz.prog 29 #[.pointer (some ⟨R,0,none⟩)] w fun e w'=>e=.returned (.tuple #[])∧∃vN',RdV base R s a ⟨l++rowT n++rowsT (r+1),(0,r+1)::st,gr⟩ vN' vL w0 w':=by
 have HE:=Lib.hid (pendRow_calls w h (by omega) hst hn hr');have hl2:(l++rowT n).length≤4000000:=by
  rw [List.length_append];have:=rowT_len n
  omega
 have hA:=fun (nd:NdN) W vN x (h:RdV base R s a x vN vL w0 W)=>padd_calls nd W h
 obtain ⟨g,cap,rfl,hbg,hgl,hgR,hcap,t0,t1,f0,f1,_⟩:=h.top rfl;have HL:=Lib.hid (fun W (h3:W.cell? ⟨R,3,none⟩=some (.slice (some ⟨g,0,none⟩) (st.length+1:Nat) cap))=>plevel_calls R g st.length cap W h3 hst);clear t0 t1 f0 f1 h hgl;generalize l++rowT n=l2 at*
 by_cases h1:1<r+1
 ·have hA1:=hA (nd6 (r+1))
  rw [show nd6 (r+1)=⟨6,(r:Int)+1,0,0,0⟩ from rfl,nd_zero] at hA1;have HA:=Lib.hid hA1;have hT:rowsT (r+1)=[⟨6,(r:Int)+1,0,0,0⟩]:=by unfold rowsT;rw [if_pos h1];rfl
  have HT:=Lib.hid hT;have q:decide ((1:Int)<(r:Int)+1)=true:=by rw [decide_eq_true_iff];omega
  clear hT hA hA1;go_enter Tryz.func29,Tryz.ntmps29
  go_wp2_with fail
  refine HE.out.mono ?_;rintro e w2 ⟨rfl,vN',hr⟩;clear HE;have c3:=hr.c.2.2.2.1;have HR:=Lib.hid hr;clear hr
  go_wp2_with fail
  refine (HL.out _ c3).mono ?_;rintro e w3 ⟨rfl,hb⟩;clear HL;have hr:=HR.out.below hb;obtain ⟨_,_,e,_,_,_,_,t0,t1,f0,f1,_⟩:=hr.top rfl
  cases e
  clear HR hb c3;have HR:=Lib.hid hr;clear hr
  go_wp2_with fail
  refine (HA.out _ _ _ HR.out hl2).mono ?_;rintro e w4 ⟨rfl,vN2,hr⟩;clear HA HR t0 t1 f0 f1;have HR:=Lib.hid hr;clear hr
  go_wp2_with fail
  go_end0;rw [HT.out];exact ⟨rfl,_,HR.out⟩
 ·have hT:rowsT (r+1)=[]:=by unfold rowsT;rw [if_neg h1]
  have HT:=Lib.hid hT;have q:decide ((1:Int)<(r:Int)+1)=false:=by rw [decide_eq_false_iff_not];omega
  clear hT hA;go_enter Tryz.func29,Tryz.ntmps29
  go_wp2_with fail
  refine HE.out.mono ?_;rintro e w2 ⟨rfl,vN',hr⟩;clear HE;have c3:=hr.c.2.2.2.1;have HR:=Lib.hid hr;clear hr
  go_wp2_with fail
  refine (HL.out _ c3).mono ?_;rintro e w3 ⟨rfl,hb⟩;clear HL;have hr:=HR.out.below hb;obtain ⟨_,_,e,_,_,_,_,t0,t1,f0,f1,_⟩:=hr.top rfl
  cases e
  clear HR hb c3;have HR:=Lib.hid hr;clear hr
  go_wp2_with fail
  go_end0;rw [HT.out,List.append_nil];exact ⟨rfl,_,HR.out⟩
theorem info2r:(Tryz.prog.info? 86).map (fun i=>(i.zero,i.size,i.bytes))=some (some (.agg #[.int .i64 0,.int .i64 0]),2,16):=by kernel_rfl
set_option maxRecDepth 100000 in
set_option maxHeartbeats 4000000 in
theorem popenGroup9_calls {R:Nat} (w:World) (c4:w.cell? ⟨R,4,none⟩=some (.int .i64 9)):
 Calls Tryz.prog 73 #[.pointer (some ⟨R,0,none⟩)] w fun e w'=>e=.returned (.int .i64 9)∧w=w':=by
 go_enter Tryz.func73,Tryz.ntmps73
 go_wp2_with fail
 go_ret;exact ⟨rfl,rfl⟩
set_option maxRecDepth 100000 in
set_option maxHeartbeats 4000000 in
theorem popenGroup_calls {base R:Nat} {s:ByteArray} {a:Nat} {l:List NdN} {st:List (Nat×Nat)} {gr:Nat} {vN vL:Value} {w0:World} (w:World) (h:RdV base R s a ⟨l,st,gr⟩ vN vL w0 w) (hst:st.length≤2000000) (hg:gr<9):
 Calls Tryz.prog 73 #[.pointer (some ⟨R,0,none⟩)] w fun e w'=>e=.returned (.int .i64 0)∧∃vL',RdV base R s a ⟨l,(0,0)::st,gr+1⟩ vN vL' w0 w':=by
 obtain ⟨i0,hi0,hz0,hz1,hz2⟩:=info_parts info2r;have c4:w.cell? ⟨R,4,none⟩=some (.int .i64 gr):=h.c.2.2.2.2;have q:((gr:Int)==9)=false:=by rw [beq_eq_false_iff_ne];omega
 have f4:=h.blk.frozen 4;have HR:Hid (RdV base R s a ⟨l,st,gr+1⟩ vN vL w0 (w.setCell ⟨R,4,none⟩ (.int .i64 ((gr+1:Nat):Int)))):=Lib.hid (h.setGroups (gr+1));clear h;go_enter Tryz.func73,Tryz.ntmps73
 go_upto_region 4 with fail
 rw [show ((gr:Int)+1)=((gr+1:Nat):Int) from rfl] at*;generalize w.setCell ⟨R,4,none⟩ (.int .i64 ((gr+1:Nat):Int))=w1 at*;clear c4 f4;have hr:=HR.out;have c3:=hr.c.2.2.2.1;have lR:=hr.lR;have hsz:=hr.size;have hRlt:=hr.blk.lt;clear hr
 go_wp2_with (at_builtin;go_loud (refine wpList_append_lies _ rfl _ _ 61 rfl base 86 i0 (.agg #[.int .i64 0,.int .i64 0]) 2 16 Tryz.underlying61 hi0 hz0 hz1 hz2 rfl (by decide) vL st.length (lvCells st.reverse) rfl (HR.out.alloc _).levels ⟨w1.heap.size,0,none⟩ 1 1 [.int .i64 0,.int .i64 0] rfl rfl (World.news_of_block (cs:=#[.int .i64 0,.int .i64 0]) (t:=86) (fr:=(0,0)) (heap_alloc_new w1 _)) (by simp [Value.oneCell']) (by omega) (by simp only [maxLen];omega) (by omega) (by simp;omega) (w1.heap.size+1) (by simp) ?_);intro g cap w2 hown hgrow hat hlt;have ff2:=((HR.out.alloc _).blk.kept hgrow (Ne.symm lR)).frozen 3;have cc2:w2.cell? ⟨R,3,none⟩=some vL:=((HR.out.alloc _).blk.kept hgrow (Ne.symm lR)).cell 3)
 go_ret;exact ⟨rfl,_,(HR.out.alloc _).pushL hown hgrow (hat.imp id fun e=>by rw [e];simp)⟩
end Go.Proofs.YtbccojjcdcighaaGreatDoor

namespace Go.Proofs.YtbccojjcdcighaaGreatDoor
open Go.RowKit BS
set_option maxRecDepth 100000 in
set_option maxHeartbeats 4000000 in
theorem pshutGroup8_calls {R:Nat} (ad:Option Addr) (cap:Nat) (w:World) (c3:w.cell? ⟨R,3,none⟩=some (.slice ad 1 cap)):
 Calls Tryz.prog 74 #[.pointer (some ⟨R,0,none⟩)] w fun e w'=>e=.returned (.int .i64 8)∧w=w':=by
 have HO:=Lib.hid (popen_calls R 0 ad cap w c3 (by omega));go_enter Tryz.func74,Tryz.ntmps74
 go_wp2_with fail
 refine HO.out.mono ?_;rintro e w2 ⟨rfl,rfl⟩
 go_wp2_with fail
 go_ret;exact ⟨rfl,rfl⟩
set_option maxRecDepth 100000 in
set_option maxHeartbeats 8000000 in
theorem pshutGroup_calls {base R:Nat} {s:ByteArray} {a n r n2 r2:Nat} {l:List NdN} {st:List (Nat×Nat)} {gr:Nat} {vN vL:Value} {w0:World} (w:World) (h:RdV base R s a ⟨l,(n,r)::(n2,r2)::st,gr⟩ vN vL w0 w) (hl:l.length≤3999990) (hst:st.length≤1999990) (hn:n≤2000000) (hr':r≤2000000) (hn2:n2≤2000000):
 Calls Tryz.prog 74 #[.pointer (some ⟨R,0,none⟩)] w fun e w'=>e=.returned (.int .i64 0)∧∃vN' vL',RdV base R s a ⟨l++rowT n++rowsT (r+1)++[ndG],(n2+1,r2)::st,gr⟩ vN' vL' w0 w':=by
 have HE:=Lib.hid (pendRows_calls w h (by omega) (by simp only [List.length_cons];omega) hn hr');have hl2:(l++rowT n++rowsT (r+1)).length≤4000000:=by
  rw [List.length_append,List.length_append];have h1:=rowT_len n;have h2:=rowsT_len (r+1)
  omega
 obtain ⟨g,cap,rfl,hbg,hgl,hgR,hcap,t0,t1,f0,f1,_⟩:=h.top rfl;have c3:=h.c.2.2.2.1;simp only [List.length_cons] at hcap;rw [show ((n2,r2)::st).length=st.length+1 from rfl] at*;clear t0 t1 f0 f1 h hgl;have HO:=Lib.hid (fun W (h3:W.cell? ⟨R,3,none⟩=some (.slice (some ⟨g,0,none⟩) (st.length+1+1:Nat) cap))=>popen_calls R (st.length+1) (some ⟨g,0,none⟩) cap W h3 (by omega));have HP:=Lib.hid (fun W vN vL (h:RdV base R s a ⟨l++rowT n++rowsT (r+1),(n2,r2)::st,gr⟩ vN vL w0 W)=>paddPiece_calls ndG W h hl2 (by omega) hn2);rw [show ndG=⟨3,1,0,0,0⟩ from rfl,nd_zero] at HP;generalize l++rowT n++rowsT (r+1)=l2 at*;have q:((st.length:Int)+1==0)=false:=by rw [beq_eq_false_iff_ne];omega
 go_enter Tryz.func74,Tryz.ntmps74
 go_wp2_with fail
 refine (HO.out _ c3).mono ?_;rintro e w2 ⟨rfl,rfl⟩
 go_wp2_with fail
 refine HE.out.mono ?_;rintro e w2 ⟨rfl,vN',hr⟩;clear HE c3;have c3:w2.cell? ⟨R,3,none⟩=some (.slice (some ⟨g,0,none⟩) (st.length+1+1:Nat) cap):=hr.c.2.2.2.1;have f3:=hr.blk.frozen 3;have HR:=Lib.hid hr;have q0:(0:Int)≤(st.length:Int)+1:=by omega
 have q1:(st.length:Int)+1≤(cap:Int):=by omega
 clear hr
 go_wp2_with fail
 go_region_with (go_at_call 28;refine (HO.out w2.drew c3).mono ?_;rintro e w3 ⟨rfl,rfl⟩)
 all_goals
  have hr:RdV base R s a ⟨l2,(n2,r2)::st,gr⟩ vN' (.slice (some ⟨g,0,none⟩) (st.length+1:Nat) cap) w0 (w2.drew.setCell ⟨R,3,none⟩ (.slice (some ⟨g,0,none⟩) (st.length+1:Nat) cap)):=RdV.popL (p:=(0,r+1)) (st:=(n2,r2)::st) HR.out.drew rfl
  go_wp2_with fail
  refine (HP.out _ _ _ hr).mono ?_;rintro e w4 ⟨rfl,vN2,hr2⟩
  go_wp2_with fail
  go_ret;exact ⟨rfl,_,_,hr2⟩
end Go.Proofs.YtbccojjcdcighaaGreatDoor

namespace Go.Proofs.YtbccojjcdcighaaGreatDoor
open Go.RowKit Go.Shelf BS
def UZ (s:BitVec 256):Nat→List Value→Value→Prop
 |0,_,v=>v=setV s
 |1,_,v=>v=setV 0
 |2,_,v=>∃b,v=.slice (some ⟨b,0,none⟩) 1 1
 |3,_,v=>∃b,v=.slice (some ⟨b,0,none⟩) 1 1
 |4,_,v=>v=setV (range 94 94)
 |_,_,v=>v=.bool (decide (s=range 94 94))
def VZ (n0:Nat) (i:Nat) (v:Value) (W:World):Prop:=match i with
 |2=>MarkB n0 5 [94] v W
 |3=>MarkB n0 5 [94] v W
 |_=>True
theorem keepVZ (n0:Nat):∀i v w w',TM n0 w w'→VZ n0 i v w→VZ n0 i v w':=by
 intro i v w w' hb h;unfold VZ at*
 split
 ·exact MarkB.kept h hb
 ·exact MarkB.kept h hb
 ·trivial
def SZ (w:World) (n0 gF:Nat) (s:BitVec 256) (W:World):Prop:=(Blk W w.heap.size (setA s) 43∧Blk W gF (setA fourS) 43∧w.heap.size<n0∧gF<n0∧n0≤W.heap.size)∧Below w.heap.size w W
theorem SZ.keep {w W W':World} {n0 gF:Nat} {s:BitVec 256} (h:SZ w n0 gF s W) (hb:TM n0 W W'):SZ w n0 gF s W':=
 ⟨⟨h.1.1.below hb.1 h.1.2.2.1,h.1.2.1.below hb.1 h.1.2.2.2.1,h.1.2.2.1,h.1.2.2.2.1,Nat.le_trans h.1.2.2.2.2 hb.1.size⟩,h.2.trans (hb.1.mono (by have:=h.1.2.2.1;omega))⟩
theorem SZ.drewS {w W:World} {n0 gF:Nat} {s:BitVec 256} (h:SZ w n0 gF s W):SZ w n0 gF s W.drew:=⟨⟨h.1.1,h.1.2.1,h.1.2.2⟩,h.2.drew⟩
theorem eq94 (s:BitVec 256) (w:World):(Op.equalIn 10000 43 (setV s) (setV (range 94 94))).run Tryz.prog w=.ok (decide (s=range 94 94)) w:=eq_set s (range 94 94) w
theorem out_eq (s:BitVec 256):(iT (s.getLsbD 93) 93++(rsOf (s &&& ~~~fourS)).flatMap runT)++iT (s.getLsbD 91) 91=outT s:=rfl
theorem text_eq (s:BitVec 256) (h0:¬s=0) (h1:¬s=range 94 94):textT s=if outT s=[] then [91]++iT (s.getLsbD 45) 45++iT (s.getLsbD 94) 94++[93] else [91]++outT s++iT (s.getLsbD 94) 94++iT (s.getLsbD 45) 45++[93]:=by
 unfold textT;rw [if_neg h0,if_neg h1]
 by_cases h:outT s=[]
 ·rw [if_pos h,if_pos h];simp
 ·rw [if_neg h,if_neg h];simp
set_option maxRecDepth 100000 in
set_option maxHeartbeats 16000000 in
theorem rText_calls (s:BitVec 256) (w:World):Calls Tryz.prog 61 #[setV s] w fun e w'=>e=.returned (.string (ofT (textT s)))∧Below w.heap.size w w':=by
 by_cases h0:s=0
 ·exact rText_zero s h0 w
 have b0:=Blk.new w (setA s) 43;have hB0:Below w.heap.size w (w.alloc (.cells (setA s) 43)):=by go_grown
 have hq:=eq_zero s;have q:decide (s=0)=false:=by simpa using h0
 rw [q] at hq;obtain ⟨⟨c0,c1,c2,c3⟩,_⟩:=b0.cells4;have BS:=Lib.hid b0;have HB:=Lib.hid hB0;have H0:=Lib.hid h0;have hz:w.heap.size+1≤(w.alloc (.cells (setA s) 43)).heap.size:=by simp
 clear b0 hB0 h0 q;go_enter Tryz.func61,Tryz.ntmps61
 go_upto_region 1 with fail
 have e0:w.alloc (.cells #[.int .u64 (wd s 0),.int .u64 (wd s 1),.int .u64 (wd s 2),.int .u64 (wd s 3)] 43)=w.alloc (.cells (setA s) 43):=rfl;rw [e0];clear e0;generalize w.alloc (.cells (setA s) 43)=w1 at*;have hcv:∀W:World,(convert 70 70 (.slice (some ⟨W.heap.size,0,none⟩) 4 4)).run Tryz.prog (W.alloc (.cells #[.int .u8 93,.int .u8 91,.int .u8 94,.int .u8 45] 5))=.ok (.slice (some ⟨W.heap.size,0,none⟩) 4 4) (W.alloc (.cells #[.int .u8 93,.int .u8 91,.int .u8 94,.int .u8 45] 5 (4,5))):=fun W=>Lib.run_convert_bytes_const W 70 5 #[.int .u8 93,.int .u8 91,.int .u8 94,.int .u8 45] 4 4 Tryz.underlying70 Tryz.underlying5
 go_wp2_with fail
 have hby:=bytes_mark w1 5 [93,91,94,45] (4,5);have b1:=BS.out.alloc (.cells #[.int .u8 93,.int .u8 91,.int .u8 94,.int .u8 45] 5 (4,5));have hB1:=HB.out.alloc (show w.heap.size≤w1.heap.size by omega) (.cells #[.int .u8 93,.int .u8 91,.int .u8 94,.int .u8 45] 5 (4,5));refine Calls.mono (four_c _ _ (some ⟨w1.heap.size,0,none⟩) rfl hby) ?_;rintro e w2 ⟨rfl,hb⟩;have hz2:=hb.size;rw [World.size_alloc] at hz2;replace BS:=Lib.hid (b1.below hb b1.lt);replace HB:=Lib.hid (hB1.trans (hb.mono (by simp;omega)));clear hb b1 hB1 hby c0 c1 c2 c3 hq;have hz3:w.heap.size+2≤w2.heap.size:=by omega
 clear hz hz2
 go_upto_region 4 with fail
 have BF:Hid (Blk (w2.alloc (.cells #[.int .u64 (wd fourS 0),.int .u64 (wd fourS 1),.int .u64 (wd fourS 2),.int .u64 (wd fourS 3)] 43)) w2.heap.size (setA fourS) 43):=Lib.hid (Blk.new w2 (setA fourS) 43);replace BS:=Lib.hid (BS.out.alloc (.cells #[.int .u64 (wd fourS 0),.int .u64 (wd fourS 1),.int .u64 (wd fourS 2),.int .u64 (wd fourS 3)] 43));replace HB:=Lib.hid (HB.out.alloc (show w.heap.size≤w2.heap.size by omega) (.cells #[.int .u64 (wd fourS 0),.int .u64 (wd fourS 1),.int .u64 (wd fourS 2),.int .u64 (wd fourS 3)] 43));have hz:w2.heap.size+1≤(w2.alloc (.cells #[.int .u64 (wd fourS 0),.int .u64 (wd fourS 1),.int .u64 (wd fourS 2),.int .u64 (wd fourS 3)] 43)).heap.size:=by simp
 generalize w2.alloc (.cells #[.int .u64 (wd fourS 0),.int .u64 (wd fourS 1),.int .u64 (wd fourS 2),.int .u64 (wd fourS 3)] 43)=w3 at*;generalize w2.heap.size=gF at*;have hs0:SZ w w3.heap.size gF s w3:=⟨⟨BS.out,BF.out,by omega,by omega,Nat.le_refl _⟩,HB.out⟩;generalize w3.heap.size=n0 at hs0;have HS0:=Lib.hid hs0;clear hs0 BS BF HB hz hz3 hcv
 go_cut [23] from 18 to 23 (fun v wx=>v=.bool (decide (s=range 94 94))∧SZ w n0 gF s wx)
 case first=>
  refine region_stepsG (S:=SZ w n0 gF s) (U:=UZ s) (V:=VZ n0) (T:=TM n0) (TM.refl n0) (by kernel_rfl) (fun _ _ hb hs=>hs.keep hb) (keepVZ n0) (by kernel_rfl) (SZ.drewS HS0.out) ?_;clear HS0;simp only [List.size_toArray,List.length_cons,List.length_nil,Nat.reduceAdd,Array.replicate_succ,Array.replicate_zero,List.push_toArray,List.nil_append,List.cons_append];refine AnyG.step (i:=0) (d:=some 18) rfl rfl (by kernel_rfl) (by kernel_rfl) (by kernel_rfl) (by kernel_rfl) ?_ ?_ ?_
  ·exact ⟨_,rfl⟩
  ·refine StepsG.yield (TM.refl n0) (setV s) rfl (by kernel_rfl) (fun w' hS hD=>⟨?_,trivial⟩)
   obtain ⟨⟨c0,c1,c2,c3⟩,_⟩:=hS.1.1.cells4;clear hS hD;go_simp
   try (first|rfl|exact ⟨rfl,rfl,rfl,rfl⟩)
  intro v' hv' a' ha';have hv':setV s=v':=Eq.symm hv';subst hv';simp only [Act.put,List.setIfInBounds_toArray,List.set_cons_zero,List.set_cons_succ] at ha';subst ha';refine AnyG.step (i:=1) (d:=some 19) rfl rfl (by kernel_rfl) (by kernel_rfl) (by kernel_rfl) (by kernel_rfl) ?_ ?_ ?_
  ·exact ⟨_,rfl⟩
  ·refine StepsG.yield (TM.refl n0) (setV 0) rfl (by kernel_rfl) (fun w' hS hD=>⟨?_,trivial⟩)
   clear hS hD;go_simp
   try (first|rfl|exact ⟨rfl,rfl,rfl,rfl⟩)
  intro v' hv' a' ha';have hv':setV 0=v':=Eq.symm hv';subst hv';simp only [Act.put,List.setIfInBounds_toArray,List.set_cons_zero,List.set_cons_succ] at ha';subst ha';refine AnyG.step (i:=2) (d:=some 20) rfl rfl (by kernel_rfl) (by kernel_rfl) (by kernel_rfl) (by kernel_rfl) ?_ ?_ ?_
  ·exact ⟨_,0,rfl⟩
  ·refine StepsG.made (by kernel_rfl) (fun w' hS hD=>?_)
   have hn:=hS.1.2.2.2.2;clear hS hD;refine ⟨.slice (some ⟨w'.heap.size,0,none⟩) 1 1,w'.alloc (.cells (byW [94]) 5),?_,⟨_,rfl⟩,MarkB.new n0 _ [94] w' hn,TM.of_below (by go_grown) hn⟩;clear hn
   go_simp
   try rfl
  rintro v' ⟨a2,rfl⟩ a' ha';simp only [Act.put,List.setIfInBounds_toArray,List.set_cons_zero,List.set_cons_succ] at ha';subst ha';refine AnyG.step (i:=3) (d:=some 21) rfl rfl (by kernel_rfl) (by kernel_rfl) (by kernel_rfl) (by kernel_rfl) ?_ ?_ ?_
  ·exact ⟨_,0,rfl⟩
  ·refine StepsG.made (by kernel_rfl) (fun w' hS hD=>?_)
   have hm:MarkB n0 5 [94] (.slice (some ⟨a2,0,none⟩) 1 1) w':=hD.get (k:=2) (by kernel_rfl) rfl rfl;clear hS hD;obtain ⟨W',h1,h2,h3⟩:=hm.convert (P:=Tryz.prog) Tryz.underlying70 Tryz.underlying5;refine ⟨_,W',?_,⟨a2,rfl⟩,h2,h3⟩;clear h2 h3 hm
   go_simp
   try rfl
  rintro v' ⟨a3,rfl⟩ a' ha';simp only [Act.put,List.setIfInBounds_toArray,List.set_cons_zero,List.set_cons_succ] at ha';subst ha';refine AnyG.step (i:=4) (d:=some 22) rfl rfl (by kernel_rfl) (by kernel_rfl) (by kernel_rfl) (by kernel_rfl) ?_ ?_ ?_
  ·exact ⟨_,rfl⟩
  ·refine StepsG.call (f:=86) (args:=#[setV 0,.slice (some ⟨a3,0,none⟩) 1 1]) (by kernel_rfl) (fun w' hS=>by clear hS;go_simp) (fun w' hS hD=>?_)
   have hm:MarkB n0 5 [94] (.slice (some ⟨a3,0,none⟩) 1 1) w':=hD.get (k:=3) (by kernel_rfl) rfl rfl;have hn:=hS.1.2.2.2.2;refine (up_c w' _ (some ⟨a3,0,none⟩) rfl hm.bytes).mono ?_;rintro e w'' ⟨rfl,hb⟩;exact ⟨_,rfl,rfl,trivial,TM.of_below hb hn⟩
  intro v' hv' a' ha';have hv':setV (range 94 94)=v':=Eq.symm hv';subst hv';simp only [Act.put,List.setIfInBounds_toArray,List.set_cons_zero,List.set_cons_succ] at ha';subst ha';refine AnyG.step (i:=5) (d:=some 23) rfl rfl (by kernel_rfl) (by kernel_rfl) (by kernel_rfl) (by kernel_rfl) ?_ ?_ ?_
  ·exact ⟨_,rfl⟩
  ·refine StepsG.yield (TM.refl n0) (.bool (decide (s=range 94 94))) rfl (by kernel_rfl) (fun w' hS hD=>⟨?_,trivial⟩)
   have q:=eq94 s;clear hS hD;go_simp
   try (first|rfl|exact ⟨rfl,rfl,rfl,rfl⟩)
  intro v' hv' a' ha';have hv':.bool (decide (s=range 94 94))=v':=Eq.symm hv';subst hv';simp only [Act.put,List.setIfInBounds_toArray,List.set_cons_zero,List.set_cons_succ] at ha';subst ha';refine AnyG.done (by kernel_rfl) (fun w' hS hF=>?_) _;clear hF
  go_wp2_with fail
  go_meet
  exact ⟨rfl,hS⟩
 case rest=>
 obtain ⟨rfl,hS⟩:=hcut;clear HS0
 by_cases hs:s=range 94 94
 ·have hres:textT s=[]:=(text_nil s).2 hs
  have q:decide (s=range 94 94)=true:=by simpa using hs
  rw [q];have HR:=Lib.hid hres;have hB:=hS.2;clear q hres hs hS
  go_wp2_with fail
  go_ret;exact ⟨by rw [HR.out]<;>rfl,hB⟩
 have q:decide (s=range 94 94)=false:=by simpa using hs
 rw [q];have HNS:=Lib.hid hs;clear q hs;have BS:=Lib.hid hS.1.1;have BF:=Lib.hid hS.1.2.1;have HB:=Lib.hid hS.2;have hz:=hS.2.size;clear hS;have h93:=fun w'=>rhas_calls s 93 w' (by omega) (by omega)
 have h91:=fun w'=>rhas_calls s 91 w' (by omega) (by omega)
 have h94:=fun w'=>rhas_calls s 94 w' (by omega) (by omega)
 have h45:=fun w'=>rhas_calls s 45 w' (by omega) (by omega)
 rw [show (93:Int).toNat=93 from rfl] at h93;rw [show (91:Int).toNat=91 from rfl] at h91;rw [show (94:Int).toNat=94 from rfl] at h94;rw [show (45:Int).toNat=45 from rfl] at h45;have hO:=out_eq s;have hTX:=text_eq s H0.out HNS.out;generalize s.getLsbD 93=x93 at h93 hO hTX;generalize s.getLsbD 91=x91 at h91 hO hTX;generalize s.getLsbD 94=x94 at h94 hTX;generalize s.getLsbD 45=x45 at h45 hTX;have H93:=Lib.hid h93;have H91:=Lib.hid h91;have H94:=Lib.hid h94;have H45:=Lib.hid h45;clear h93 h91 h94 h45;obtain ⟨rs,hrs⟩:∃rs,rsOf (s &&& ~~~fourS)=rs:=⟨_,rfl⟩;have hrl:=rsOf_len (s &&& ~~~fourS);have hok:=rsOf_ok (s &&& ~~~fourS);have hru:=rruns_calls (s &&& ~~~fourS);rw [hrs] at hrl hok hru hO;have hle:=rless_calls s fourS;generalize s &&& ~~~fourS=sm at hru hle;have HOKR:=Lib.hid hok;have HRU:=Lib.hid hru;have HLE:=Lib.hid hle;have HO:=Lib.hid hO;have HTX:=Lib.hid hTX;clear hok hrs hru hle hO hTX;obtain ⟨⟨c0,c1,c2,c3⟩,_⟩:=BS.out.cells4
 go_wp2_with fail
 refine (H93.out _).mono ?_;rintro e w4 ⟨rfl,hb⟩;replace BS:=Lib.hid (BS.out.below hb (Blk.lt BS.out));replace BF:=Lib.hid (BF.out.below hb (Blk.lt BF.out));replace HB:=Lib.hid (HB.out.trans (hb.mono hz));have hzx:=Nat.le_trans hz hb.size;clear hz hb;have hz:=hzx;clear hzx;clear c0 c1 c2 c3
 go_upto_if 25 with fail
 go_cut [4] (fun t wx=>t=.string (ofT (iT x93 93))∧w4=wx)
 case first=>
  cases x93<;>(go_wp2_with fail;go_meet;exact ⟨rfl,rfl⟩)
 case rest=>
 obtain ⟨rfl,rfl⟩:=hcut;obtain ⟨⟨c0,c1,c2,c3⟩,_⟩:=BS.out.cells4;obtain ⟨⟨d0,d1,d2,d3⟩,_⟩:=BF.out.cells4
 go_wp2_with fail
 refine (HLE.out _).mono ?_;rintro e w5 ⟨rfl,hb⟩;replace BS:=Lib.hid (BS.out.below hb (Blk.lt BS.out));replace BF:=Lib.hid (BF.out.below hb (Blk.lt BF.out));replace HB:=Lib.hid (HB.out.trans (hb.mono hz));have hzx:=Nat.le_trans hz hb.size;clear hz hb;have hz:=hzx;clear hzx;clear c0 c1 c2 c3 d0 d1 d2 d3 HLE
 go_wp2_with fail
 refine (HRU.out _).mono ?_;rintro e w6 ⟨v,rfl,hr,hb⟩;replace BS:=Lib.hid (BS.out.below hb (Blk.lt BS.out));replace BF:=Lib.hid (BF.out.below hb (Blk.lt BF.out));replace HB:=Lib.hid (HB.out.trans (hb.mono hz));have hzx:=Nat.le_trans hz hb.size;clear hz hb;have hz:=hzx;clear hzx;clear HRU BF;obtain ⟨a5,cap5,rfl,h5'⟩:=row_of_owns hr;have h5:rs≠[]→∃g,a5=some ⟨g,0,none⟩∧RowAt g rs w6:=fun hne=>by
  obtain ⟨g,g1,_,g2⟩:=h5' hne;exact ⟨g,g1,g2⟩
 have H5:=Lib.hid h5;clear hr h5 h5';have hl93:=iT_len x93 93;generalize hX:iT x93 93=X at*;have HX:=Lib.hid hX;clear hX
 go_upto_block 0 with fail
 go_cut [4] from 30 to 66 (fun t wx=>t=.string (ofT (X++rs.flatMap runT))∧STh w s wx)
 case first=>
  go_wp2_with fail
  go_loopw [4,6] (fun t v wr=>∃k:Nat,k≤rs.length∧v=.int .i64 k∧t=.string (ofT (X++(rs.take k).flatMap runT))∧STh w s wr∧(rs≠[]→∃g,a5=some ⟨g,0,none⟩∧RowAt g rs wr)) (fun _ v _=>rs.length - (intOf v).toNat)
  case atStart=>exact ⟨0,Nat.zero_le _,rfl,by simp,⟨BS.out,HB.out⟩,H5.out⟩
  case round=>
   clear BS HB hz H5;obtain ⟨k,hk,rfl,rfl,hS,h5⟩:=hrel
   by_cases hkl:k<rs.length
   ·have hne:rs≠[]:=fun h=>by rw [h] at hkl;simp at hkl
    obtain ⟨g,rfl,hrow⟩:=h5 hne;obtain ⟨r0,r1⟩:=hrow.2 k hkl;obtain ⟨o1,o2⟩:=HOKR.out k hkl;have hts:rs.take (k+1)=rs.take k++[rs[k]]:=by rw [List.take_succ_eq_append_getElem hkl]
    have hTT:X++(rs.take (k+1)).flatMap runT=(X++(rs.take k).flatMap runT)++runT (rs[k].1,rs[k].2):=by rw [hts,List.flatMap_append,List.flatMap_singleton,List.append_assoc]
    have hlen:(X++(rs.take k).flatMap runT).length≤2+3*256:=by
     have h1:=runs_txt_len (rs.take k);have h2:(rs.take k).length≤256:=by rw [List.length_take];omega
     rw [List.length_append];omega
    have hrun:=fun (W:World) (h:RowAt g rs W)=>h.2 k hkl
    generalize X++(rs.take k).flatMap runT=T0 at*;generalize hT1:X++(rs.take (k+1)).flatMap runT=TE at hTT;have HT1:=Lib.hid hT1;clear hT1 hts;generalize rs[k].1=lo at*;generalize rs[k].2=hi at*;have HRUN:=Lib.hid hrun;have hlo:lo<256:=by omega
    clear hrun r0 r1 h5;have h0:STh w s wr∧RowAt g rs wr:=⟨hS,hrow⟩;clear hS hrow;have ad1:=addT T0 [lo] (by rw [show ([lo]:List Nat).length=1 from rfl];omega);have cvA:∀W:World,(convert 70 9 (.slice (some ⟨W.heap.size,0,none⟩) 1 1)).run Tryz.prog (W.alloc (.cells #[.int .u8 lo] 5))=.ok (.string (ofT [lo])) (W.alloc (.cells #[.int .u8 lo] 5)):=fun W=>cv1 W _ lo
    have cvB:∀W:World,(convert 70 9 (.slice (some ⟨W.heap.size,0,none⟩) 1 1)).run Tryz.prog (W.alloc (.cells #[.int .u8 hi] 5))=.ok (.string (ofT [hi])) (W.alloc (.cells #[.int .u8 hi] 5)):=fun W=>cv1 W _ hi
    have CVA:=Lib.hid cvA;have CVB:=Lib.hid cvB;have AD1:=Lib.hid ad1;clear cvA cvB ad1
    go_upto_region 13 with fail
    have x1:(k:Int).toNat=k:=rfl;have xb:(k:Int)<(rs.length:Int):=by omega
    refine region_steps (S:=fun W=>STh w s W∧RowAt g rs W) (by kernel_rfl) (show STh w s wr.drew∧RowAt g rs wr.drew from ⟨h0.1.drewS,h0.2⟩) ?_;clear h0;simp only [List.size_toArray,List.length_cons,List.length_nil,Nat.reduceAdd,Array.replicate_succ,Array.replicate_zero,List.push_toArray,List.nil_append,List.cons_append];refine AnyS.stepE (i:=0) (d:=some 36) rfl rfl (by kernel_rfl) (by kernel_rfl) (by kernel_rfl) ?_;apply Exists.intro;apply And.intro
    ·apply StepsIf.yield
     ·kernel_rfl
     intro w' hS;clear hS;go_simp
     rfl
    intro a' ha';simp only [Act.put,List.setIfInBounds_toArray,List.set_cons_zero,List.set_cons_succ] at ha';subst ha';refine AnyS.stepE (i:=1) (d:=some 37) rfl rfl (by kernel_rfl) (by kernel_rfl) (by kernel_rfl) ?_;apply Exists.intro;apply And.intro
    ·apply StepsIf.yield
     ·kernel_rfl
     intro w' hS;clear hS;go_simp
     rfl
    intro a' ha';simp only [Act.put,List.setIfInBounds_toArray,List.set_cons_zero,List.set_cons_succ] at ha';subst ha';refine AnyS.next (i:=2) (d:=some 38) (v:=.pointer (some ⟨g,k*2,none⟩)) rfl rfl (by kernel_rfl) (by kernel_rfl) (by kernel_rfl) (StepsIf.yield (by kernel_rfl) (fun w' hS=>by clear hS;go_simp)) ?_;intro a' ha';simp only [Act.put,List.setIfInBounds_toArray,List.set_cons_zero,List.set_cons_succ] at ha';subst ha';refine AnyS.next (i:=3) (d:=some 39) (v:=.pointer (some ⟨g,k*2,none⟩)) rfl rfl (by kernel_rfl) (by kernel_rfl) (by kernel_rfl) (StepsIf.yield (by kernel_rfl) (fun w' hS=>by clear hS;go_simp)) ?_;intro a' ha';simp only [Act.put,List.setIfInBounds_toArray,List.set_cons_zero,List.set_cons_succ] at ha';subst ha';refine AnyS.next (i:=4) (d:=some 40) (v:=.int .u8 lo) rfl rfl (by kernel_rfl) (by kernel_rfl) (by kernel_rfl) (StepsIf.yield (by kernel_rfl) (fun w' hS=>by have hc:=HRUN.out w' hS.2;obtain ⟨r0,r1⟩:=hc;clear hS;go_simp)) ?_;intro a' ha';simp only [Act.put,List.setIfInBounds_toArray,List.set_cons_zero,List.set_cons_succ] at ha';subst ha';refine AnyS.stepE (i:=5) (d:=some 41) rfl rfl (by kernel_rfl) (by kernel_rfl) (by kernel_rfl) ?_;apply Exists.intro;apply And.intro
    ·apply StepsIf.yield
     ·kernel_rfl
     intro w' hS;clear hS;go_simp
     rfl
    intro a' ha';simp only [Act.put,List.setIfInBounds_toArray,List.set_cons_zero,List.set_cons_succ] at ha';subst ha';refine AnyS.stepE (i:=6) (d:=some 42) rfl rfl (by kernel_rfl) (by kernel_rfl) (by kernel_rfl) ?_;apply Exists.intro;apply And.intro
    ·apply StepsIf.yield
     ·kernel_rfl
     intro w' hS;clear hS;go_simp
     rfl
    intro a' ha';simp only [Act.put,List.setIfInBounds_toArray,List.set_cons_zero,List.set_cons_succ] at ha';subst ha';refine AnyS.next (i:=7) (d:=some 43) (v:=.pointer (some ⟨g,k*2,none⟩)) rfl rfl (by kernel_rfl) (by kernel_rfl) (by kernel_rfl) (StepsIf.yield (by kernel_rfl) (fun w' hS=>by clear hS;go_simp)) ?_;intro a' ha';simp only [Act.put,List.setIfInBounds_toArray,List.set_cons_zero,List.set_cons_succ] at ha';subst ha';refine AnyS.next (i:=8) (d:=some 44) (v:=.pointer (some ⟨g,k*2+1,none⟩)) rfl rfl (by kernel_rfl) (by kernel_rfl) (by kernel_rfl) (StepsIf.yield (by kernel_rfl) (fun w' hS=>by clear hS;go_simp)) ?_;intro a' ha';simp only [Act.put,List.setIfInBounds_toArray,List.set_cons_zero,List.set_cons_succ] at ha';subst ha';refine AnyS.next (i:=9) (d:=some 45) (v:=.int .u8 hi) rfl rfl (by kernel_rfl) (by kernel_rfl) (by kernel_rfl) (StepsIf.yield (by kernel_rfl) (fun w' hS=>by have hc:=HRUN.out w' hS.2;obtain ⟨r0,r1⟩:=hc;clear hS;go_simp)) ?_;intro a' ha';simp only [Act.put,List.setIfInBounds_toArray,List.set_cons_zero,List.set_cons_succ] at ha';subst ha';refine AnyS.stepE (i:=10) (d:=some 7) rfl rfl (by kernel_rfl) (by kernel_rfl) (by kernel_rfl) ?_;apply Exists.intro;apply And.intro
    ·apply StepsIf.yield
     ·kernel_rfl
     intro w' hS;clear hS;go_simp
     rfl
    intro a' ha';simp only [Act.put,List.setIfInBounds_toArray,List.set_cons_zero,List.set_cons_succ] at ha';subst ha';refine AnyS.stepE (i:=11) (d:=some 8) rfl rfl (by kernel_rfl) (by kernel_rfl) (by kernel_rfl) ?_;apply Exists.intro;apply And.intro
    ·apply StepsIf.yield
     ·kernel_rfl
     intro w' hS;clear hS;go_simp
     rfl
    intro a' ha';simp only [Act.put,List.setIfInBounds_toArray,List.set_cons_zero,List.set_cons_succ] at ha';subst ha';refine AnyS.done (by kernel_rfl) (fun w7 hS=>?_) _;clear x1 xb;have hS1:=hS.1;have hrow:=hS.2;clear hS HRUN;have cvA:=CVA.out;have ad1:=AD1.out
    by_cases e1:hi=lo
    ·have hr:runT (lo,hi)=[lo]:=by unfold runT;rw [if_neg (by simp only;omega),if_neg (by simp only;omega)];rfl
     rw [hr] at hTT;rw [←hTT] at ad1;have q1:decide ((lo:Int)+1<(hi:Int))=false:=by rw [decide_eq_false_iff_not];omega
     have q2:decide (lo<hi)=false:=by rw [decide_eq_false_iff_not];omega
     clear CVA CVB AD1 hr e1 hTT
     go_wp2_with fail
     go_roundw
     case rel=>exact ⟨k+1,by omega,by simp,by rw [HT1.out],⟨hS1.1.alloc _,hS1.2.alloc hS1.2.size _⟩,fun _=>⟨g,rfl,hrow.below (by go_grown)⟩⟩
     case measure=>simp [intOf];omega
    by_cases e2:hi=lo+1
    ·have hr:runT (lo,hi)=[lo,hi]:=by unfold runT;rw [if_neg (by simp only;omega),if_pos (by simp only;omega)];rfl
     rw [hr] at hTT;have ad2:=addT (T0++[lo]) [hi] (by rw [List.length_append,show ([lo]:List Nat).length=1 from rfl,show ([hi]:List Nat).length=1 from rfl];omega);rw [show T0++[lo]++[hi]=TE by rw [hTT];simp] at ad2;have q1:decide ((lo:Int)+1<(hi:Int))=false:=by rw [decide_eq_false_iff_not];omega
     have q2:decide (lo<hi)=true:=by rw [decide_eq_true_eq];omega
     generalize T0++[lo]=T1 at*;have cvB:=CVB.out (w7.alloc (.cells #[.int .u8 lo] 5));rw [World.size_alloc] at cvB;clear CVA CVB AD1 hr e1 e2 hTT
     go_wp2_with fail
     go_roundw
     case rel=>exact ⟨k+1,by omega,by simp,by rw [HT1.out],⟨(hS1.1.alloc _).alloc _,(hS1.2.alloc hS1.2.size _).alloc (by have:=hS1.2.size;simp;omega) _⟩,fun _=>⟨g,rfl,(hrow.below (by go_grown):RowAt g rs ((w7.alloc (.cells #[.int .u8 lo] 5)).alloc (.cells #[.int .u8 hi] 5)))⟩⟩
     case measure=>simp [intOf];omega
    ·have hr:runT (lo,hi)=[lo,45,hi]:=by unfold runT;rw [if_pos (by simp only;omega),if_pos (by simp only;omega)];rfl
     rw [hr] at hTT;have ad2:=addT (T0++[lo]) [45] (by rw [List.length_append,show ([lo]:List Nat).length=1 from rfl,show ([45]:List Nat).length=1 from rfl];omega);have ad3:=addT (T0++[lo]++[45]) [hi] (by rw [List.length_append,List.length_append,show ([lo]:List Nat).length=1 from rfl,show ([hi]:List Nat).length=1 from rfl,show ([45]:List Nat).length=1 from rfl];omega);rw [show T0++[lo]++[45]++[hi]=TE by rw [hTT];simp] at ad3;rw [show ofT [45]=⟨#[45]⟩ from rfl] at ad2;have q1:decide ((lo:Int)+1<(hi:Int))=true:=by rw [decide_eq_true_eq];omega
     have q2:decide (lo<hi)=true:=by rw [decide_eq_true_eq];omega
     generalize T0++[lo]++[45]=T2 at*;generalize T0++[lo]=T1 at*;have cvB:=CVB.out (w7.alloc (.cells #[.int .u8 lo] 5));rw [World.size_alloc] at cvB;clear CVA CVB AD1 hr e1 e2 hTT
     go_wp2_with fail
     go_roundw
     case rel=>exact ⟨k+1,by omega,by simp,by rw [HT1.out],⟨(hS1.1.alloc _).alloc _,(hS1.2.alloc hS1.2.size _).alloc (by have:=hS1.2.size;simp;omega) _⟩,fun _=>⟨g,rfl,(hrow.below (by go_grown):RowAt g rs ((w7.alloc (.cells #[.int .u8 lo] 5)).alloc (.cells #[.int .u8 hi] 5)))⟩⟩
     case measure=>simp [intOf];omega
   ·obtain rfl:k=rs.length:=by omega
    rw [List.take_length]
    go_wp2_with fail
    go_meet
    exact ⟨rfl,hS⟩
 case rest=>
 obtain ⟨rfl,hS⟩:=hcut;clear BS HB hz H5;have hfl:(rs.flatMap runT).length≤768:=by have:=runs_txt_len rs;omega
 have hO:=HO.out
 skip
 have hl91:=iT_len x91 91;have hXf:(X++rs.flatMap runT).length≤770:=by rw [List.length_append];omega
 have hOl:(outT s).length≤771:=by rw [←hO,List.length_append];omega
 have ad1:=addT (X++rs.flatMap runT) [91] (by rw [show ([91]:List Nat).length=1 from rfl];omega);rw [show ofT [91]=⟨#[91]⟩ from rfl] at ad1;generalize X++rs.flatMap runT=T0 at*;have hoT:x91=true→T0++[91]=outT s:=fun h=>by rw [←hO,h];rfl
 have hoF:x91=false→T0=outT s:=fun h=>by rw [←hO,h];simp [iT]
 have HOT:=Lib.hid hoT;have HOF:=Lib.hid hoF;have AD1:=Lib.hid ad1;have BS:=Lib.hid hS.1;have HB:=Lib.hid hS.2;have hz:=hS.2.size;clear HO HX HOKR hO hl91 hXf hfl ad1 hoT hoF hS;obtain ⟨⟨c0,c1,c2,c3⟩,_⟩:=BS.out.cells4
 go_wp2_with fail
 refine (H91.out _).mono ?_;rintro e w7 ⟨rfl,hb⟩;replace BS:=Lib.hid (BS.out.below hb (Blk.lt BS.out));replace HB:=Lib.hid (HB.out.trans (hb.mono hz));have hzx:=Nat.le_trans hz hb.size;clear hz hb;have hz:=hzx;clear hzx;clear c0 c1 c2 c3 H91 H93
 go_upto_if 68 with fail
 go_cut [4] (fun t wx=>t=.string (ofT (outT s))∧w7=wx)
 case first=>
  cases x91 with
  |true=>
   have ad1:=AD1.out;have hE:=HOT.out rfl;clear AD1 HOT HOF;rw [hE] at ad1;clear hE
   go_wp2_with fail
   go_meet
   exact ⟨rfl,rfl⟩
  |false=>
   have hE:=HOF.out rfl;rw [hE];clear AD1 HOT HOF hE
   go_wp2_with fail
   go_meet
   exact ⟨rfl,rfl⟩
 case rest=>
 obtain ⟨rfl,rfl⟩:=hcut;clear AD1 HOT HOF;obtain ⟨⟨c0,c1,c2,c3⟩,_⟩:=BS.out.cells4
 go_wp2_with fail
 refine (H94.out _).mono ?_;rintro e w8 ⟨rfl,hb⟩;replace BS:=Lib.hid (BS.out.below hb (Blk.lt BS.out));replace HB:=Lib.hid (HB.out.trans (hb.mono hz));have hzx:=Nat.le_trans hz hb.size;clear hz hb;have hz:=hzx;clear hzx;clear c0 c1 c2 c3 H94
 go_upto_if 72 with fail
 go_cut [9] (fun t wx=>t=.string (ofT (iT x94 94))∧w8=wx)
 case first=>
  cases x94<;>(go_wp2_with fail;go_meet;exact ⟨rfl,rfl⟩)
 case rest=>
 obtain ⟨rfl,rfl⟩:=hcut;obtain ⟨⟨c0,c1,c2,c3⟩,_⟩:=BS.out.cells4
 go_wp2_with fail
 refine (H45.out _).mono ?_;rintro e w9 ⟨rfl,hb⟩;replace BS:=Lib.hid (BS.out.below hb (Blk.lt BS.out));replace HB:=Lib.hid (HB.out.trans (hb.mono hz));have hzx:=Nat.le_trans hz hb.size;clear hz hb;have hz:=hzx;clear hzx;clear c0 c1 c2 c3 H45
 go_upto_if 74 with fail
 go_cut [10] (fun t wx=>t=.string (ofT (iT x45 45))∧w9=wx)
 case first=>
  cases x45<;>(go_wp2_with fail;go_meet;exact ⟨rfl,rfl⟩)
 case rest=>
 obtain ⟨rfl,rfl⟩:=hcut;have hl94:=iT_len x94 94;have hl45:=iT_len x45 45;have htx:=HTX.out;generalize iT x94 94=i94 at*;generalize iT x45 45=i45 at*;have b1:([91]:List Nat).length=1:=rfl;have b2:([93]:List Nat).length=1:=rfl
 by_cases ho:outT s=[]
 ·rw [if_pos ho] at htx
  have ad1:=addT [91] i45 (by omega);have ad2:=addT ([91]++i45) i94 (by rw [List.length_append];omega);have ad3:=addT ([91]++i45++i94) [93] (by rw [List.length_append,List.length_append];omega);rw [←htx] at ad3;rw [show ofT [91]=⟨#[91]⟩ from rfl] at ad1;rw [show ofT [93]=⟨#[93]⟩ from rfl] at ad3;have q:(ofT (outT s)).toList=[]:=by rw [ho,toL];rfl
  generalize [91]++i45++i94=T2 at*;generalize [91]++i45=T1 at*;generalize outT s=O at*;have hB:=HB.out;clear b1 b2 htx HTX HB BS ho hl94 hl45 hz
  go_wp2_with fail
  go_ret;exact ⟨rfl,hB⟩
 ·rw [if_neg ho] at htx
  have ad1:=addT [91] (outT s) (by omega);have ad2:=addT ([91]++outT s) i94 (by rw [List.length_append];omega);have ad3:=addT ([91]++outT s++i94) i45 (by rw [List.length_append,List.length_append];omega);have ad4:=addT ([91]++outT s++i94++i45) [93] (by rw [List.length_append,List.length_append,List.length_append];omega);rw [←htx] at ad4;rw [show ofT [91]=⟨#[91]⟩ from rfl] at ad1;rw [show ofT [93]=⟨#[93]⟩ from rfl] at ad4;have q:(ofT (outT s)).toList.isEmpty=false:=by
   rw [toL]
   cases hc:outT s with
   |nil=>exact absurd hc ho
   |cons=>rfl
  generalize [91]++outT s++i94++i45=T3 at*;generalize [91]++outT s++i94=T2 at*;generalize [91]++outT s=T1 at*;generalize outT s=O at*;have hB:=HB.out;clear b1 b2 htx HTX HB BS ho hl94 hl45 hz
  go_wp2_with fail
  go_ret;exact ⟨rfl,hB⟩
end Go.Proofs.YtbccojjcdcighaaGreatDoor

/- Texts put together: Hj Hk Ws Jf Jg Hl. -/
import Derived.Test.YtbccojjcdcighaaGreatDoorQAm
import Derived.Test.YtbccojjcdcighaaGreatDoorQAl
import Derived.Test.YtbccojjcdcighaaGreatDoorQAc
import Derived.Test.YtbccojjcdcighaaGreatDoorQB
import Derived.Test.YtbccojjcdcighaaGreatDoorQD
import Derived.Test.YtbccojjcdcighaaGreatDoorQAk
import Derived.Test.YtbccojjcdcighaaGreatDoorQAb
namespace Go.Proofs.YtbccojjcdcighaaGreatDoor
open Go.RowKit BS
def pS (st:List (Nat×Nat)):List Nat:=(st.map Prod.fst).reverse
def rS (st:List (Nat×Nat)):List Nat:=(st.map Prod.snd).reverse
theorem pS_cons (n r:Nat) (st:List (Nat×Nat)):pS ((n,r)::st)=pS st++[n]:=by simp [pS]
theorem rS_cons (n r:Nat) (st:List (Nat×Nat)):rS ((n,r)::st)=rS st++[r]:=by simp [rS]
theorem pS_len (st:List (Nat×Nat)):(pS st).length=st.length:=by simp [pS]
theorem rS_len (st:List (Nat×Nat)):(rS st).length=st.length:=by simp [rS]
set_option maxRecDepth 100000 in
set_option maxHeartbeats 8000000 in
theorem rfirst_calls {base N:Nat} {A:Nat→Prop} {l:List NdN} {st:List (Nat×Nat)} {n r gr:Nat} {vN vP vR:Value} (b:Nat) (w:World) (h:SV base N A l (pS ((n,r)::st)) (rS ((n,r)::st)) vN vP vR w) (hst:st.length≤2000000):
 Calls Tryz.prog 66 #[.agg (stW vN vP vR gr),.int .u8 b] w fun e w'=>e=.returned (.int .i64 (firstP ⟨l,(n,r)::st,gr⟩ b))∧Below w.heap.size w w':=by
 have h2:=h.alloc (.cells (stW vN vP vR gr) 82);have hB:=Blk.new w (stW vN vP vR gr) 82;have HB:Hid (Below w.heap.size w (w.alloc (.cells (stW vN vP vR gr) 82))):=Lib.hid (by go_grown);rw [pS_cons] at h2;obtain ⟨gP,cP,rfl,lP,kP,tP,yP⟩:=h2.topPK (pS_len st);clear h h2 yP lP;have c1:=hB.cell 1;have c3:=hB.cell 3;simp only [List.getElem?_toArray,List.getElem?_cons_zero,List.getElem?_cons_succ] at c1 c3;clear hB;have q0:(0:Int)≤(st.length:Int):=by omega
 have q1:(st.length:Int)<((st.length+1:Nat):Int):=by omega
 by_cases b42:b=42
 ·subst b42
  clear c3
  by_cases h0:n=0
  ·subst h0
   have hF:firstP ⟨l,(0,r)::st,gr⟩ 42=7:=by rfl
   rw [hF];clear hF;go_enter Tryz.func66,Tryz.ntmps66
   go_wp2_with fail
   go_ret;exact ⟨rfl,HB.out⟩
  ·have qn:((n:Int)==0)=false:=by rw [beq_eq_false_iff_ne];omega
   have hF:firstP ⟨l,(n,r)::st,gr⟩ 42=0:=by unfold firstP;simp [h0]
   rw [hF];clear hF;go_enter Tryz.func66,Tryz.ntmps66
   go_wp2_with fail
   go_ret;exact ⟨rfl,HB.out⟩
 have q42:((b:Int)==42)=false:=by rw [beq_eq_false_iff_ne];omega
 by_cases b43:b=43
 ·subst b43
  clear c3
  by_cases h0:n=0
  ·subst h0
   have hF:firstP ⟨l,(0,r)::st,gr⟩ 43=7:=by rfl
   rw [hF];clear hF;go_enter Tryz.func66,Tryz.ntmps66
   go_wp2_with fail
   go_ret;exact ⟨rfl,HB.out⟩
  ·have qn:((n:Int)==0)=false:=by rw [beq_eq_false_iff_ne];omega
   have hF:firstP ⟨l,(n,r)::st,gr⟩ 43=0:=by unfold firstP;simp [h0]
   rw [hF];clear hF;go_enter Tryz.func66,Tryz.ntmps66
   go_wp2_with fail
   go_ret;exact ⟨rfl,HB.out⟩
 have q43:((b:Int)==43)=false:=by rw [beq_eq_false_iff_ne];omega
 by_cases b63:b=63
 ·subst b63
  clear c3
  by_cases h0:n=0
  ·subst h0
   have hF:firstP ⟨l,(0,r)::st,gr⟩ 63=7:=by rfl
   rw [hF];clear hF;go_enter Tryz.func66,Tryz.ntmps66
   go_wp2_with fail
   go_ret;exact ⟨rfl,HB.out⟩
  ·have qn:((n:Int)==0)=false:=by rw [beq_eq_false_iff_ne];omega
   have hF:firstP ⟨l,(n,r)::st,gr⟩ 63=0:=by unfold firstP;simp [h0]
   rw [hF];clear hF;go_enter Tryz.func66,Tryz.ntmps66
   go_wp2_with fail
   go_ret;exact ⟨rfl,HB.out⟩
 have q63:((b:Int)==63)=false:=by rw [beq_eq_false_iff_ne];omega
 by_cases b123:b=123
 ·subst b123
  clear c3
  by_cases h0:n=0
  ·subst h0
   have hF:firstP ⟨l,(0,r)::st,gr⟩ 123=7:=by rfl
   rw [hF];clear hF;go_enter Tryz.func66,Tryz.ntmps66
   go_wp2_with fail
   go_ret;exact ⟨rfl,HB.out⟩
  ·have qn:((n:Int)==0)=false:=by rw [beq_eq_false_iff_ne];omega
   have hF:firstP ⟨l,(n,r)::st,gr⟩ 123=0:=by unfold firstP;simp [h0]
   rw [hF];clear hF;go_enter Tryz.func66,Tryz.ntmps66
   go_wp2_with fail
   go_ret;exact ⟨rfl,HB.out⟩
 have q123:((b:Int)==123)=false:=by rw [beq_eq_false_iff_ne];omega
 by_cases b41:b=41
 ·subst b41
  clear c3 tP
  by_cases h0:st=[]
  ·subst h0
   have hF:firstP ⟨l,[(n,r)],gr⟩ 41=8:=by rfl
   rw [hF];clear hF;go_enter Tryz.func66,Tryz.ntmps66
   go_wp2_with fail
   go_ret;exact ⟨rfl,HB.out⟩
  ·have hl:0<st.length:=List.length_pos_iff.2 h0
   have qn:((st.length:Int)==0)=false:=by rw [beq_eq_false_iff_ne];omega
   have hF:firstP ⟨l,(n,r)::st,gr⟩ 41=0:=by unfold firstP;simp [h0]
   rw [hF];clear hF;go_enter Tryz.func66,Tryz.ntmps66
   go_wp2_with fail
   go_ret;exact ⟨rfl,HB.out⟩
 have q41:((b:Int)==41)=false:=by rw [beq_eq_false_iff_ne];omega
 by_cases b40:b=40
 ·subst b40
  clear tP
  by_cases h0:gr=9
  ·subst h0
   have hF:firstP ⟨l,(n,r)::st,9⟩ 40=9:=by rfl
   rw [hF];clear hF;go_enter Tryz.func66,Tryz.ntmps66
   go_wp2_with fail
   go_ret;exact ⟨rfl,HB.out⟩
  ·have qn:((gr:Int)==9)=false:=by rw [beq_eq_false_iff_ne];omega
   have hF:firstP ⟨l,(n,r)::st,gr⟩ 40=0:=by unfold firstP;simp [h0]
   rw [hF];clear hF;go_enter Tryz.func66,Tryz.ntmps66
   go_wp2_with fail
   go_ret;exact ⟨rfl,HB.out⟩
 have q40:((b:Int)==40)=false:=by rw [beq_eq_false_iff_ne];omega
 have hF:firstP ⟨l,(n,r)::st,gr⟩ b=0:=by unfold firstP;simp [b42,b43,b63,b123,b41,b40]
 rw [hF];clear hF;clear b42 b43 b63 b123 b41 b40 c3 tP;go_enter Tryz.func66,Tryz.ntmps66
 go_wp2_with fail
 go_ret;exact ⟨rfl,HB.out⟩
end Go.Proofs.YtbccojjcdcighaaGreatDoor

namespace Go.Proofs.YtbccojjcdcighaaGreatDoor
open Go.RowKit BS
theorem bx_new3 {base N:Nat} {A:Nat→Prop} {l:List NdN} {ps rs:List Nat} {vN vP vR:Value} {w:World} (g:Int) (cs:Array Value) (h:SV base N A l ps rs vN vP vR w):
 BxV base (w.heap.size+3) w.heap.size (w.heap.size+2) (fun k=>A k∧k≠w.heap.size∧k≠w.heap.size+1∧k≠w.heap.size+2) l ps rs g vN vP vR w (((w.alloc (.cells (stW vN vP vR g) 82)).alloc (.cells cs 91)).alloc (.cells stO 82)):=by
 have h2:=((h.alloc (.cells (stW vN vP vR g) 82)).alloc (.cells cs 91)).alloc (.cells stO 82);have hr:=Blk.new ((w.alloc (.cells (stW vN vP vR g) 82)).alloc (.cells cs 91)) stO 82;rw [World.size_alloc,World.size_alloc] at hr;have hk:∀{v:Value} {e:TypeId} {size n:Nat} {xs:List Value},w.ownsRow base e size v n xs→∀k,v.ownBlock=some k→k≠w.heap.size∧k≠w.heap.size+1∧k≠w.heap.size+2:=fun ho k e=>by have:=own_lt ho e;omega
 refine ⟨⟨h2.nodes,h2.pieces,h2.rows,fun k e=>⟨h.aN k e,hk h.nodes k e⟩,fun k e=>⟨h.aP k e,hk h.pieces k e⟩,fun k e=>⟨h.aR k e,hk h.rows k e⟩,fun k hk=>⟨h.up k (Nat.le_trans h.sz (by omega)),by omega,by omega,by omega⟩,by simp,Nat.le_trans h.bs (Nat.le_trans h.sz (by omega)),h.nP,h.nR,h.pR⟩,
  ((Blk.new w _ _).alloc _).alloc _,hr,fun h=>h.2.1 rfl,fun h=>h.2.2.2 rfl,(((KpA.refl _ _).alloc _).alloc _).alloc _,by omega⟩
theorem bx_end3 {base N:Nat} {A:Nat→Prop} {l:List NdN} {ps rs:List Nat} {vN vP vR:Value} {w W:World} {g:Int} (hN:N≤w.heap.size) (hup:∀k,N≤k→A k) (hbs:base≤N) (h:BxV base (w.heap.size+3) w.heap.size (w.heap.size+2) (fun k=>A k∧k≠w.heap.size∧k≠w.heap.size+1∧k≠w.heap.size+2) l ps rs g vN vP vR w W) (cs:Array Value):
 SV base N A l ps rs vN vP vR (W.setRow (w.heap.size+2) cs)∧KpA A w (W.setRow (w.heap.size+2) cs):=by
 refine ⟨(h.sv.row h.nB2 cs).mono hbs (Nat.le_trans hN (by have:=h.kp.size;simpa [World.setRow] using this)) (fun k hk _=>hk.1) hup,(h.kp.row (.inr (by omega)) cs).mono fun k hk=>?_⟩;rcases hk with hk|hk
 ·exact hk.1
 ·exact hup k (by omega)
theorem SV.piecesK {base N K:Nat} {A:Nat→Prop} {l:List NdN} {ps rs:List Nat} {n:Nat} {vN vP vR:Value} {w:World} (hK:ps.length=K) (h:SV base N A l (ps++[n]) rs vN vP vR w):w.ownsRow base 3 1 vP (K+1) (inC (ps++[n])):=by
 have:=h.pieces
 rwa [List.length_append,List.length_singleton,hK] at this
theorem SV.rowsK {base N K:Nat} {A:Nat→Prop} {l:List NdN} {ps rs:List Nat} {n:Nat} {vN vP vR:Value} {w:World} (hK:rs.length=K) (h:SV base N A l ps (rs++[n]) vN vP vR w):w.ownsRow base 3 1 vR (K+1) (inC (rs++[n])):=by
 have:=h.rows
 rwa [List.length_append,List.length_singleton,hK] at this
theorem len_snoc {ps:List Nat} {n K:Nat} (h:ps.length=K):(ps++[n]).length=K+1:=by rw [List.length_append,h];rfl
theorem infoInt7:(Tryz.prog.info? 3).map (fun i=>(i.zero,i.size,i.bytes))=some (some (.int .i64 0),1,8):=by kernel_rfl
set_option maxRecDepth 100000 in
set_option maxHeartbeats 16000000 in
theorem rtake1 {base N K:Nat} {A:Nat→Prop} {l:List NdN} {ps rs:List Nat} {n r gr:Nat} {vN vP vR:Value} (p f:Int) (t:BitVec 256) (n' m':Int) (w:World) (h:SV base N A l (ps++[n]) (rs++[r]) vN vP vR w) (hp:ps.length=K) (hq:rs.length=K) (hl:l.length≤3999990) (hn:n≤2000000) (hp':K≤2000000):
 Calls Tryz.prog 68 #[.agg (stW vN vP vR gr),.agg (woI 1 p f t n' m')] w fun e w'=>∃vN' vP' vR',e=.returned (.agg (stW vN' vP' vR' gr))∧SV base N A (l++[⟨2,0,0,0,t⟩]) (ps++[n+1]) (rs++[r]) vN' vP' vR' w'∧KpA A w w':=by
 obtain ⟨i0,hi0,hz0,hz1,hz2⟩:=info_parts info8n;obtain ⟨aN,cN,rfl⟩:=h.formN;obtain ⟨gP,cP,rfl,_⟩:=h.topPK hp;obtain ⟨gR,cR,rfl,_⟩:=h.topRK hq;have hx:=bx_new3 (gr:Int) (woI 1 p f t n' m') h;have hW:Blk (((w.alloc (.cells (stW (.slice aN l.length cN) (.slice (some ⟨gP,0,none⟩) (K+1:Nat) cP) (.slice (some ⟨gR,0,none⟩) (K+1:Nat) cR) gr) 82)).alloc (.cells (woI 1 p f t n' m') 91)).alloc (.cells stO 82)) (w.heap.size+1) (woI 1 p f t n' m') 91:=by
  have:=(Blk.new (w.alloc (.cells (stW (.slice aN l.length cN) (.slice (some ⟨gP,0,none⟩) (K+1:Nat) cP) (.slice (some ⟨gR,0,none⟩) (K+1:Nat) cR) gr) 82)) (woI 1 p f t n' m') 91).alloc (.cells stO 82)
  rwa [World.size_alloc] at this
 have HU:=Lib.hid (And.intro h.sz (And.intro h.up h.bs));have HPQ:=Lib.hid (And.intro hp hq);clear h hp hq;go_enter Tryz.func68,Tryz.ntmps68
 go_upto_region 1 with fail
 have e0:((w.alloc (.cells #[.slice aN l.length cN,.slice (some ⟨gP,0,none⟩) (K+1:Nat) cP,.slice (some ⟨gR,0,none⟩) (K+1:Nat) cR,.int .i64 gr] 82)).alloc (.cells (woI 1 p f t n' m') 91)).alloc (.cells #[.slice none 0 0,.slice none 0 0,.slice none 0 0,.int .i64 0] 82)=((w.alloc (.cells (stW (.slice aN l.length cN) (.slice (some ⟨gP,0,none⟩) (K+1:Nat) cP) (.slice (some ⟨gR,0,none⟩) (K+1:Nat) cR) gr) 82)).alloc (.cells (woI 1 p f t n' m') 91)).alloc (.cells stO 82):=rfl
 try rw [e0]
 clear e0;generalize ((w.alloc (.cells (stW (.slice aN l.length cN) (.slice (some ⟨gP,0,none⟩) (K+1:Nat) cP) (.slice (some ⟨gR,0,none⟩) (K+1:Nat) cR) gr) 82)).alloc (.cells (woI 1 p f t n' m') 91)).alloc (.cells stO 82)=w1 at*;have d0:=hW.cell 0;have d3:=hW.cell 3;have d4:=hW.cell 4;have d5:=hW.cell 5;have d6:=hW.cell 6;have d7:=hW.cell 7;have d8:=hW.cell 8;simp only [List.getElem?_toArray,List.getElem?_cons_zero,List.getElem?_cons_succ] at d0 d3 d4 d5 d6 d7 d8;clear hW;obtain ⟨c0,c1,c2,c3⟩:=hx.c;obtain ⟨f0,f1,f2,f3⟩:=hx.f;obtain ⟨_,_,e,lP,kP,tP,yP⟩:=hx.sv.topPK HPQ.out.1
 cases e
 obtain ⟨_,_,e,lR,kR,tR,yR⟩:=hx.sv.topRK HPQ.out.2
 cases e
 have HX:=Lib.hid hx;clear hx;have q0:(0:Int)≤(K:Int):=by omega
 have q1:(K:Int)<((K+1:Nat):Int):=by omega
 go_upto_region 5 with (at_builtin;go_loud (refine wpList_append_lies _ rfl _ _ 22 rfl base 45 i0 (.agg #[.int .i64 0,.int .i64 0,.int .i64 0,.int .i64 0,.int .u64 0,.int .u64 0,.int .u64 0,.int .u64 0]) 8 64 Tryz.underlying22 hi0 hz0 hz1 hz2 rfl (by decide) (.slice aN l.length cN) l.length (ndCells l) rfl (HX.out.alloc _).sv.nodes ⟨w1.heap.size,0,none⟩ 1 1 [.int .i64 2,.int .i64 0,.int .i64 0,.int .i64 0,.int .u64 (wd t 0),.int .u64 (wd t 1),.int .u64 (wd t 2),.int .u64 (wd t 3)] rfl rfl (World.news_of_block (cs:=[.int .i64 2,.int .i64 0,.int .i64 0,.int .i64 0,.int .u64 (wd t 0),.int .u64 (wd t 1),.int .u64 (wd t 2),.int .u64 (wd t 3)].toArray) (t:=45) (fr:=(0,0)) (heap_alloc_new w1 _)) (by simp [Value.oneCell']) (by omega) (by simp only [maxLen];omega) (by omega) (by have:=HX.out.sv.sz;have:=HX.out.sv.bs;simp;omega) (w1.heap.size+1) (by simp) ?_);intro g' cap' w2 hown hgrow hat hlt;have hb2:=(HX.out.alloc _).blk.kept hgrow (fun e=>(HX.out.nB (HX.out.sv.aN _ e.symm)));have j0:=hb2.cell 0;have y0:=hb2.frozen 0;simp only [List.getElem?_toArray,List.getElem?_cons_zero] at j0)
 have h2:=(HX.out.alloc _).pushN (nd:=⟨2,0,0,0,t⟩) (by first|exact hown|(rw [nd_zero7];exact hown)) hgrow (hat.imp id fun e=>by rw [e];simp);clear HX hown hgrow hat hlt hb2 j0 y0;clear c0 c1 c2 c3 f0 f1 f2 f3 lP kP tP yP lR kR tR yR;generalize w2.setCell ⟨w.heap.size,0,none⟩ (.slice (some ⟨g',0,none⟩) (l.length+1:Nat) cap')=w4 at*;clear d0 d3 d4 d5 d6 d7 d8;obtain ⟨c0,c1,c2,c3⟩:=h2.c;obtain ⟨f0,f1,f2,f3⟩:=h2.f;obtain ⟨_,_,e,lP,kP,tP,yP⟩:=h2.sv.topPK HPQ.out.1
 cases e
 obtain ⟨_,_,e,lR,kR,tR,yR⟩:=h2.sv.topRK HPQ.out.2
 cases e
 have HX:=Lib.hid h2;clear h2
 go_upto_region 18 with fail
 have h3:=HX.out.setPK HPQ.out.1 (n+1) (v:=(n:Int)+1) rfl;clear HX;clear c0 c1 c2 c3 f0 f1 f2 f3 lP kP tP yP lR kR tR yR;generalize w4.setCell ⟨gP,K,none⟩ (.int .i64 ((n:Int)+1))=w5 at*;obtain ⟨c0,c1,c2,c3⟩:=h3.c;obtain ⟨f0,f1,f2,f3⟩:=h3.f;obtain ⟨_,_,e,lP,kP,tP,yP⟩:=h3.sv.topPK HPQ.out.1
 cases e
 obtain ⟨_,_,e,lR,kR,tR,yR⟩:=h3.sv.topRK HPQ.out.2
 cases e
 have HX:=Lib.hid h3;clear h3
 go_wp2_with ((with_reducible refine wpList_store_st (o:=⟨none,.store 82 _ _,_,_,_,_⟩) rfl 82 _ _ rfl (w.heap.size+2) rfl rfl (run_storeAt_row _ (w.heap.size+2) 82 82 stO (stW (.slice (some ⟨g',0,none⟩) (l.length+1:Nat) cap') (.slice (some ⟨gP,0,none⟩) (K+1:Nat) cP) (.slice (some ⟨gR,0,none⟩) (K+1:Nat) cR) (gr:Int)) ?_ ?_ ?_ ?_) ?_);exact HX.out.res;exact infoSt7;rfl;exact st_one7 _ _ _ _ _ _ _ _ _ _)
 have hE:=bx_end3 HU.out.1 HU.out.2.1 HU.out.2.2 HX.out (stW (.slice (some ⟨g',0,none⟩) (l.length+1:Nat) cap') (.slice (some ⟨gP,0,none⟩) (K+1:Nat) cP) (.slice (some ⟨gR,0,none⟩) (K+1:Nat) cR) (gr:Int));exact bodyPost_ret (v:=.agg (stW (.slice (some ⟨g',0,none⟩) (l.length+1:Nat) cap') (.slice (some ⟨gP,0,none⟩) (K+1:Nat) cP) (.slice (some ⟨gR,0,none⟩) (K+1:Nat) cR) (gr:Int))) (results_cell_row rfl _ _ (w.heap.size+2) 82 (stW (.slice (some ⟨g',0,none⟩) (l.length+1:Nat) cap') (.slice (some ⟨gP,0,none⟩) (K+1:Nat) cP) (.slice (some ⟨gR,0,none⟩) (K+1:Nat) cR) (gr:Int)) (0,0) _ rfl (Blk.setRow HX.out.res) Tryz.underlying82 rfl infoSt7) rfl ⟨_,_,_,rfl,hE.1,hE.2⟩
set_option maxRecDepth 100000 in
set_option maxHeartbeats 16000000 in
theorem rtake5 {base N K:Nat} {A:Nat→Prop} {l:List NdN} {ps rs:List Nat} {n r gr:Nat} {vN vP vR:Value} (p f:Int) (t:BitVec 256) (n' m':Int) (w:World) (h:SV base N A l (ps++[n]) (rs++[r]) vN vP vR w) (hp:ps.length=K) (hq:rs.length=K) (hl:l.length≤3999990) (hp':K≤2000000):
 Calls Tryz.prog 68 #[.agg (stW vN vP vR gr),.agg (woI 5 p f t n' m')] w fun e w'=>∃vN' vP' vR',e=.returned (.agg (stW vN' vP' vR' gr))∧SV base N A (l++[⟨4,1,n',m',0⟩]) (ps++[n]) (rs++[r]) vN' vP' vR' w'∧KpA A w w':=by
 obtain ⟨i0,hi0,hz0,hz1,hz2⟩:=info_parts info8n;obtain ⟨aN,cN,rfl⟩:=h.formN;obtain ⟨gP,cP,rfl,_⟩:=h.topPK hp;obtain ⟨gR,cR,rfl,_⟩:=h.topRK hq;have hx:=bx_new3 (gr:Int) (woI 5 p f t n' m') h;have hW:Blk (((w.alloc (.cells (stW (.slice aN l.length cN) (.slice (some ⟨gP,0,none⟩) (K+1:Nat) cP) (.slice (some ⟨gR,0,none⟩) (K+1:Nat) cR) gr) 82)).alloc (.cells (woI 5 p f t n' m') 91)).alloc (.cells stO 82)) (w.heap.size+1) (woI 5 p f t n' m') 91:=by
  have:=(Blk.new (w.alloc (.cells (stW (.slice aN l.length cN) (.slice (some ⟨gP,0,none⟩) (K+1:Nat) cP) (.slice (some ⟨gR,0,none⟩) (K+1:Nat) cR) gr) 82)) (woI 5 p f t n' m') 91).alloc (.cells stO 82)
  rwa [World.size_alloc] at this
 have HU:=Lib.hid (And.intro h.sz (And.intro h.up h.bs));have HPQ:=Lib.hid (And.intro hp hq);clear h hp hq;go_enter Tryz.func68,Tryz.ntmps68
 go_upto_region 1 with fail
 have e0:((w.alloc (.cells #[.slice aN l.length cN,.slice (some ⟨gP,0,none⟩) (K+1:Nat) cP,.slice (some ⟨gR,0,none⟩) (K+1:Nat) cR,.int .i64 gr] 82)).alloc (.cells (woI 5 p f t n' m') 91)).alloc (.cells #[.slice none 0 0,.slice none 0 0,.slice none 0 0,.int .i64 0] 82)=((w.alloc (.cells (stW (.slice aN l.length cN) (.slice (some ⟨gP,0,none⟩) (K+1:Nat) cP) (.slice (some ⟨gR,0,none⟩) (K+1:Nat) cR) gr) 82)).alloc (.cells (woI 5 p f t n' m') 91)).alloc (.cells stO 82):=rfl
 try rw [e0]
 clear e0;generalize ((w.alloc (.cells (stW (.slice aN l.length cN) (.slice (some ⟨gP,0,none⟩) (K+1:Nat) cP) (.slice (some ⟨gR,0,none⟩) (K+1:Nat) cR) gr) 82)).alloc (.cells (woI 5 p f t n' m') 91)).alloc (.cells stO 82)=w1 at*;have d0:=hW.cell 0;have d3:=hW.cell 3;have d4:=hW.cell 4;have d5:=hW.cell 5;have d6:=hW.cell 6;have d7:=hW.cell 7;have d8:=hW.cell 8;simp only [List.getElem?_toArray,List.getElem?_cons_zero,List.getElem?_cons_succ] at d0 d3 d4 d5 d6 d7 d8;clear hW;obtain ⟨c0,c1,c2,c3⟩:=hx.c;obtain ⟨f0,f1,f2,f3⟩:=hx.f;obtain ⟨_,_,e,lP,kP,tP,yP⟩:=hx.sv.topPK HPQ.out.1
 cases e
 obtain ⟨_,_,e,lR,kR,tR,yR⟩:=hx.sv.topRK HPQ.out.2
 cases e
 have HX:=Lib.hid hx;clear hx;have q0:(0:Int)≤(K:Int):=by omega
 have q1:(K:Int)<((K+1:Nat):Int):=by omega
 go_upto_region 18 with (at_builtin;go_loud (refine wpList_append_lies _ rfl _ _ 22 rfl base 45 i0 (.agg #[.int .i64 0,.int .i64 0,.int .i64 0,.int .i64 0,.int .u64 0,.int .u64 0,.int .u64 0,.int .u64 0]) 8 64 Tryz.underlying22 hi0 hz0 hz1 hz2 rfl (by decide) (.slice aN l.length cN) l.length (ndCells l) rfl (HX.out.alloc _).sv.nodes ⟨w1.heap.size,0,none⟩ 1 1 [.int .i64 4,.int .i64 1,.int .i64 n',.int .i64 m',.int .u64 0,.int .u64 0,.int .u64 0,.int .u64 0] rfl rfl (World.news_of_block (cs:=[.int .i64 4,.int .i64 1,.int .i64 n',.int .i64 m',.int .u64 0,.int .u64 0,.int .u64 0,.int .u64 0].toArray) (t:=45) (fr:=(0,0)) (heap_alloc_new w1 _)) (by simp [Value.oneCell']) (by omega) (by simp only [maxLen];omega) (by omega) (by have:=HX.out.sv.sz;have:=HX.out.sv.bs;simp;omega) (w1.heap.size+1) (by simp) ?_);intro g' cap' w2 hown hgrow hat hlt;have hb2:=(HX.out.alloc _).blk.kept hgrow (fun e=>(HX.out.nB (HX.out.sv.aN _ e.symm)));have j0:=hb2.cell 0;have y0:=hb2.frozen 0;simp only [List.getElem?_toArray,List.getElem?_cons_zero] at j0)
 have h2:=(HX.out.alloc _).pushN (nd:=⟨4,1,n',m',0⟩) (by first|exact hown|(rw [nd_zero7];exact hown)) hgrow (hat.imp id fun e=>by rw [e];simp);clear HX hown hgrow hat hlt hb2 j0 y0;clear c0 c1 c2 c3 f0 f1 f2 f3 lP kP tP yP lR kR tR yR;generalize w2.setCell ⟨w.heap.size,0,none⟩ (.slice (some ⟨g',0,none⟩) (l.length+1:Nat) cap')=w4 at*;clear d0 d3 d4 d5 d6 d7 d8;obtain ⟨c0,c1,c2,c3⟩:=h2.c;obtain ⟨f0,f1,f2,f3⟩:=h2.f;obtain ⟨_,_,e,lP,kP,tP,yP⟩:=h2.sv.topPK HPQ.out.1
 cases e
 obtain ⟨_,_,e,lR,kR,tR,yR⟩:=h2.sv.topRK HPQ.out.2
 cases e
 have HX:=Lib.hid h2;clear h2
 go_wp2_with ((with_reducible refine wpList_store_st (o:=⟨none,.store 82 _ _,_,_,_,_⟩) rfl 82 _ _ rfl (w.heap.size+2) rfl rfl (run_storeAt_row _ (w.heap.size+2) 82 82 stO (stW (.slice (some ⟨g',0,none⟩) (l.length+1:Nat) cap') (.slice (some ⟨gP,0,none⟩) (K+1:Nat) cP) (.slice (some ⟨gR,0,none⟩) (K+1:Nat) cR) (gr:Int)) ?_ ?_ ?_ ?_) ?_);exact HX.out.res;exact infoSt7;rfl;exact st_one7 _ _ _ _ _ _ _ _ _ _)
 have hE:=bx_end3 HU.out.1 HU.out.2.1 HU.out.2.2 HX.out (stW (.slice (some ⟨g',0,none⟩) (l.length+1:Nat) cap') (.slice (some ⟨gP,0,none⟩) (K+1:Nat) cP) (.slice (some ⟨gR,0,none⟩) (K+1:Nat) cR) (gr:Int));exact bodyPost_ret (v:=.agg (stW (.slice (some ⟨g',0,none⟩) (l.length+1:Nat) cap') (.slice (some ⟨gP,0,none⟩) (K+1:Nat) cP) (.slice (some ⟨gR,0,none⟩) (K+1:Nat) cR) (gr:Int))) (results_cell_row rfl _ _ (w.heap.size+2) 82 (stW (.slice (some ⟨g',0,none⟩) (l.length+1:Nat) cap') (.slice (some ⟨gP,0,none⟩) (K+1:Nat) cP) (.slice (some ⟨gR,0,none⟩) (K+1:Nat) cR) (gr:Int)) (0,0) _ rfl (Blk.setRow HX.out.res) Tryz.underlying82 rfl infoSt7) rfl ⟨_,_,_,rfl,hE.1,hE.2⟩
set_option maxRecDepth 100000 in
set_option maxHeartbeats 16000000 in
theorem rtake4 {base N K:Nat} {A:Nat→Prop} {l:List NdN} {ps rs:List Nat} {n r gr:Nat} {vN vP vR:Value} (p f:Int) (t:BitVec 256) (n' m':Int) (w:World) (h:SV base N A l (ps++[n]) (rs++[r]) vN vP vR w) (hp:ps.length=K) (hq:rs.length=K) (hl:l.length≤3999990) (hn:n≤2000000) (hr':r≤2000000) (hp':K≤2000000):
 Calls Tryz.prog 68 #[.agg (stW vN vP vR gr),.agg (woI 4 p f t n' m')] w fun e w'=>∃vN' vP' vR',e=.returned (.agg (stW vN' vP' vR' gr))∧SV base N A (l++rowT n) (ps++[0]) (rs++[r+1]) vN' vP' vR' w'∧KpA A w w':=by
 obtain ⟨i0,hi0,hz0,hz1,hz2⟩:=info_parts info8n;have HRW:=Lib.hid (fun vN vP vR W (h:SV base (w.heap.size+3) (fun k=>A k∧k≠w.heap.size∧k≠w.heap.size+1∧k≠w.heap.size+2) l (ps++[n]) (rs++[r]) vN vP vR W)=>rrow_calls (gr:=gr) W h hp hq (by omega) hn hr' hp');obtain ⟨aN,cN,rfl⟩:=h.formN;obtain ⟨gP,cP,rfl,_⟩:=h.topPK hp;obtain ⟨gR,cR,rfl,_⟩:=h.topRK hq;have hx:=bx_new3 (gr:Int) (woI 4 p f t n' m') h;have hW:Blk (((w.alloc (.cells (stW (.slice aN l.length cN) (.slice (some ⟨gP,0,none⟩) (K+1:Nat) cP) (.slice (some ⟨gR,0,none⟩) (K+1:Nat) cR) gr) 82)).alloc (.cells (woI 4 p f t n' m') 91)).alloc (.cells stO 82)) (w.heap.size+1) (woI 4 p f t n' m') 91:=by
  have:=(Blk.new (w.alloc (.cells (stW (.slice aN l.length cN) (.slice (some ⟨gP,0,none⟩) (K+1:Nat) cP) (.slice (some ⟨gR,0,none⟩) (K+1:Nat) cR) gr) 82)) (woI 4 p f t n' m') 91).alloc (.cells stO 82)
  rwa [World.size_alloc] at this
 have HU:=Lib.hid (And.intro h.sz (And.intro h.up h.bs));have HPQ:=Lib.hid (And.intro hp hq);clear h hp hq;go_enter Tryz.func68,Tryz.ntmps68
 go_upto_region 1 with fail
 have e0:((w.alloc (.cells #[.slice aN l.length cN,.slice (some ⟨gP,0,none⟩) (K+1:Nat) cP,.slice (some ⟨gR,0,none⟩) (K+1:Nat) cR,.int .i64 gr] 82)).alloc (.cells (woI 4 p f t n' m') 91)).alloc (.cells #[.slice none 0 0,.slice none 0 0,.slice none 0 0,.int .i64 0] 82)=((w.alloc (.cells (stW (.slice aN l.length cN) (.slice (some ⟨gP,0,none⟩) (K+1:Nat) cP) (.slice (some ⟨gR,0,none⟩) (K+1:Nat) cR) gr) 82)).alloc (.cells (woI 4 p f t n' m') 91)).alloc (.cells stO 82):=rfl
 try rw [e0]
 clear e0;generalize ((w.alloc (.cells (stW (.slice aN l.length cN) (.slice (some ⟨gP,0,none⟩) (K+1:Nat) cP) (.slice (some ⟨gR,0,none⟩) (K+1:Nat) cR) gr) 82)).alloc (.cells (woI 4 p f t n' m') 91)).alloc (.cells stO 82)=w1 at*;have d0:=hW.cell 0;have d3:=hW.cell 3;have d4:=hW.cell 4;have d5:=hW.cell 5;have d6:=hW.cell 6;have d7:=hW.cell 7;have d8:=hW.cell 8;simp only [List.getElem?_toArray,List.getElem?_cons_zero,List.getElem?_cons_succ] at d0 d3 d4 d5 d6 d7 d8;clear hW;obtain ⟨c0,c1,c2,c3⟩:=hx.c;obtain ⟨f0,f1,f2,f3⟩:=hx.f;obtain ⟨_,_,e,lP,kP,tP,yP⟩:=hx.sv.topPK HPQ.out.1
 cases e
 obtain ⟨_,_,e,lR,kR,tR,yR⟩:=hx.sv.topRK HPQ.out.2
 cases e
 have HX:=Lib.hid hx;clear hx;have q0:(0:Int)≤(K:Int):=by omega
 have q1:(K:Int)<((K+1:Nat):Int):=by omega
 go_wp2_with fail
 refine (HRW.out _ _ _ _ HX.out.sv).mono ?_;rintro e w2 ⟨vN',rfl,hs,hk⟩;clear d0 d3 d4 d5 d6 d7 d8;generalize hll:l++rowT n=l2 at*;have HLL:=Lib.hid hll;clear hll;obtain ⟨aM,cM,rfl⟩:=hs.formN;have hb2:=HX.out.blk.kpA hk HX.out.nB;have h2:=HX.out.call (g2:=(gr:Int)) hs hk;clear HRW HX hs hk c0 c1 c2 c3 f0 f1 f2 f3 lP kP tP yP lR kR tR yR
 go_upto_region 18 with ((with_reducible refine wpList_store_st (o:=⟨none,.store 82 _ _,_,_,_,_⟩) rfl 82 _ _ rfl w.heap.size rfl rfl (run_storeAt_row _ w.heap.size 82 82 (stW (.slice aN l.length cN) (.slice (some ⟨gP,0,none⟩) (K+1:Nat) cP) (.slice (some ⟨gR,0,none⟩) (K+1:Nat) cR) (gr:Int)) (stW (.slice aM l2.length cM) (.slice (some ⟨gP,0,none⟩) (K+1:Nat) cP) (.slice (some ⟨gR,0,none⟩) (K+1:Nat) cR) (gr:Int)) ?_ ?_ ?_ ?_) ?_);exact hb2;exact infoSt7;rfl;exact st_one7 _ _ _ _ _ _ _ _ _ _)
 clear hb2;generalize w2.setRow w.heap.size (stW (.slice aM l2.length cM) (.slice (some ⟨gP,0,none⟩) (K+1:Nat) cP) (.slice (some ⟨gR,0,none⟩) (K+1:Nat) cR) (gr:Int))=w3 at*;obtain ⟨c0,c1,c2,c3⟩:=h2.c;obtain ⟨f0,f1,f2,f3⟩:=h2.f;obtain ⟨_,_,e,lP,kP,tP,yP⟩:=h2.sv.topPK HPQ.out.1
 cases e
 obtain ⟨_,_,e,lR,kR,tR,yR⟩:=h2.sv.topRK HPQ.out.2
 cases e
 have HX:=Lib.hid h2;clear h2
 go_wp2_with ((with_reducible refine wpList_store_st (o:=⟨none,.store 82 _ _,_,_,_,_⟩) rfl 82 _ _ rfl (w.heap.size+2) rfl rfl (run_storeAt_row _ (w.heap.size+2) 82 82 stO (stW (.slice aM l2.length cM) (.slice (some ⟨gP,0,none⟩) (K+1:Nat) cP) (.slice (some ⟨gR,0,none⟩) (K+1:Nat) cR) (gr:Int)) ?_ ?_ ?_ ?_) ?_);exact HX.out.res;exact infoSt7;rfl;exact st_one7 _ _ _ _ _ _ _ _ _ _)
 have hE:=bx_end3 HU.out.1 HU.out.2.1 HU.out.2.2 HX.out (stW (.slice aM l2.length cM) (.slice (some ⟨gP,0,none⟩) (K+1:Nat) cP) (.slice (some ⟨gR,0,none⟩) (K+1:Nat) cR) (gr:Int));exact bodyPost_ret (v:=.agg (stW (.slice aM l2.length cM) (.slice (some ⟨gP,0,none⟩) (K+1:Nat) cP) (.slice (some ⟨gR,0,none⟩) (K+1:Nat) cR) (gr:Int))) (results_cell_row rfl _ _ (w.heap.size+2) 82 (stW (.slice aM l2.length cM) (.slice (some ⟨gP,0,none⟩) (K+1:Nat) cP) (.slice (some ⟨gR,0,none⟩) (K+1:Nat) cR) (gr:Int)) (0,0) _ rfl (Blk.setRow HX.out.res) Tryz.underlying82 rfl infoSt7) rfl ⟨_,_,_,rfl,by rw [HLL.out];exact hE.1,hE.2⟩
set_option maxRecDepth 100000 in
set_option maxHeartbeats 16000000 in
theorem rtake2 {base N K:Nat} {A:Nat→Prop} {l:List NdN} {ps rs:List Nat} {n r gr:Nat} {vN vP vR:Value} (p f:Int) (t:BitVec 256) (n' m':Int) (w:World) (h:SV base N A l (ps++[n]) (rs++[r]) vN vP vR w) (hp:ps.length=K) (hq:rs.length=K) (hg:gr<9) (hp':K≤2000000):
 Calls Tryz.prog 68 #[.agg (stW vN vP vR gr),.agg (woI 2 p f t n' m')] w fun e w'=>∃vN' vP' vR',e=.returned (.agg (stW vN' vP' vR' ((gr:Int)+1)))∧SV base N A l (ps++[n]++[0]) (rs++[r]++[0]) vN' vP' vR' w'∧KpA A w w':=by
 obtain ⟨i1,hj0,hj1,hj2,hj3⟩:=info_parts infoInt7;obtain ⟨aN,cN,rfl⟩:=h.formN;obtain ⟨gP,cP,rfl,_⟩:=h.topPK hp;obtain ⟨gR,cR,rfl,_⟩:=h.topRK hq;have hx:=bx_new3 (gr:Int) (woI 2 p f t n' m') h;have hW:Blk (((w.alloc (.cells (stW (.slice aN l.length cN) (.slice (some ⟨gP,0,none⟩) (K+1:Nat) cP) (.slice (some ⟨gR,0,none⟩) (K+1:Nat) cR) gr) 82)).alloc (.cells (woI 2 p f t n' m') 91)).alloc (.cells stO 82)) (w.heap.size+1) (woI 2 p f t n' m') 91:=by
  have:=(Blk.new (w.alloc (.cells (stW (.slice aN l.length cN) (.slice (some ⟨gP,0,none⟩) (K+1:Nat) cP) (.slice (some ⟨gR,0,none⟩) (K+1:Nat) cR) gr) 82)) (woI 2 p f t n' m') 91).alloc (.cells stO 82)
  rwa [World.size_alloc] at this
 have HU:=Lib.hid (And.intro h.sz (And.intro h.up h.bs));have HPQ:=Lib.hid (And.intro hp hq);clear h hp hq;go_enter Tryz.func68,Tryz.ntmps68
 go_upto_region 1 with fail
 have e0:((w.alloc (.cells #[.slice aN l.length cN,.slice (some ⟨gP,0,none⟩) (K+1:Nat) cP,.slice (some ⟨gR,0,none⟩) (K+1:Nat) cR,.int .i64 gr] 82)).alloc (.cells (woI 2 p f t n' m') 91)).alloc (.cells #[.slice none 0 0,.slice none 0 0,.slice none 0 0,.int .i64 0] 82)=((w.alloc (.cells (stW (.slice aN l.length cN) (.slice (some ⟨gP,0,none⟩) (K+1:Nat) cP) (.slice (some ⟨gR,0,none⟩) (K+1:Nat) cR) gr) 82)).alloc (.cells (woI 2 p f t n' m') 91)).alloc (.cells stO 82):=rfl
 try rw [e0]
 clear e0;generalize ((w.alloc (.cells (stW (.slice aN l.length cN) (.slice (some ⟨gP,0,none⟩) (K+1:Nat) cP) (.slice (some ⟨gR,0,none⟩) (K+1:Nat) cR) gr) 82)).alloc (.cells (woI 2 p f t n' m') 91)).alloc (.cells stO 82)=w1 at*;have d0:=hW.cell 0;have d3:=hW.cell 3;have d4:=hW.cell 4;have d5:=hW.cell 5;have d6:=hW.cell 6;have d7:=hW.cell 7;have d8:=hW.cell 8;simp only [List.getElem?_toArray,List.getElem?_cons_zero,List.getElem?_cons_succ] at d0 d3 d4 d5 d6 d7 d8;clear hW;obtain ⟨c0,c1,c2,c3⟩:=hx.c;obtain ⟨f0,f1,f2,f3⟩:=hx.f;obtain ⟨_,_,e,lP,kP,tP,yP⟩:=hx.sv.topPK HPQ.out.1
 cases e
 obtain ⟨_,_,e,lR,kR,tR,yR⟩:=hx.sv.topRK HPQ.out.2
 cases e
 have HX:=Lib.hid hx;clear hx;have q0:(0:Int)≤(K:Int):=by omega
 have q1:(K:Int)<((K+1:Nat):Int):=by omega
 clear lP kP tP yP lR kR tR yR
 go_upto_region 8 with (at_builtin;go_loud (refine wpList_append_lies _ rfl _ _ 48 rfl base 3 i1 (.int .i64 0) 1 8 Tryz.underlying48 hj0 hj1 hj2 hj3 rfl (by decide) (.slice (some ⟨gP,0,none⟩) (K+1:Nat) cP) (K+1) (inC (ps++[n])) rfl ((HX.out.alloc _).sv.piecesK HPQ.out.1) ⟨w1.heap.size,0,none⟩ 1 1 [.int .i64 0] rfl rfl (World.news_of_block (cs:=#[.int .i64 0]) (t:=3) (fr:=(0,0)) (heap_alloc_new w1 _)) (by simp [Value.oneCell']) (by omega) (by simp only [maxLen];omega) (by omega) (by have:=HX.out.sv.sz;have:=HX.out.sv.bs;simp;omega) (w1.heap.size+1) (by simp) ?_);intro g1 cap1 w2 hown hgrow hat hlt;have hb2:=(HX.out.alloc _).blk.kept hgrow (fun e=>(HX.out.nB (HX.out.sv.aP _ e.symm)));have j0:=hb2.cell 1;have y0:=hb2.frozen 1;simp only [List.getElem?_toArray,List.getElem?_cons_zero,List.getElem?_cons_succ] at j0)
 have h2:=(HX.out.alloc _).pushPK (n:=0) (len_snoc HPQ.out.1) hown hgrow (hat.imp id fun e=>by rw [e];simp);clear HX hown hgrow hat hlt hb2 j0 y0;clear c0 c1 c2 c3 f0 f1 f2 f3;generalize w2.setCell ⟨w.heap.size,1,none⟩ (.slice (some ⟨g1,0,none⟩) (K+1+1:Nat) cap1)=w4 at*;obtain ⟨c0,c1,c2,c3⟩:=h2.c;obtain ⟨f0,f1,f2,f3⟩:=h2.f;have HX:=Lib.hid h2;clear h2
 go_upto_region 9 with (at_builtin;go_loud (refine wpList_append_lies _ rfl _ _ 48 rfl base 3 i1 (.int .i64 0) 1 8 Tryz.underlying48 hj0 hj1 hj2 hj3 rfl (by decide) (.slice (some ⟨gR,0,none⟩) (K+1:Nat) cR) (K+1) (inC (rs++[r])) rfl ((HX.out.alloc _).sv.rowsK HPQ.out.2) ⟨w4.heap.size,0,none⟩ 1 1 [.int .i64 0] rfl rfl (World.news_of_block (cs:=#[.int .i64 0]) (t:=3) (fr:=(0,0)) (heap_alloc_new w4 _)) (by simp [Value.oneCell']) (by omega) (by simp only [maxLen];omega) (by omega) (by have:=HX.out.sv.sz;have:=HX.out.sv.bs;simp;omega) (w4.heap.size+1) (by simp) ?_);intro g2 cap2 w2 hown hgrow hat hlt;have hb2:=(HX.out.alloc _).blk.kept hgrow (fun e=>(HX.out.nB (HX.out.sv.aR _ e.symm)));have j0:=hb2.cell 2;have y0:=hb2.frozen 2;simp only [List.getElem?_toArray,List.getElem?_cons_zero,List.getElem?_cons_succ] at j0)
 have h2:=(HX.out.alloc _).pushRK (n:=0) (len_snoc HPQ.out.2) hown hgrow (hat.imp id fun e=>by rw [e];simp);clear HX hown hgrow hat hlt hb2 j0 y0;clear c0 c1 c2 c3 f0 f1 f2 f3;generalize w2.setCell ⟨w.heap.size,2,none⟩ (.slice (some ⟨g2,0,none⟩) (K+1+1:Nat) cap2)=w5 at*;obtain ⟨c0,c1,c2,c3⟩:=h2.c;obtain ⟨f0,f1,f2,f3⟩:=h2.f;have HX:=Lib.hid h2;clear h2
 go_upto_region 18 with fail
 have h2:=HX.out.setG ((gr:Int)+1);clear HX;clear c0 c1 c2 c3 f0 f1 f2 f3;generalize w5.setCell ⟨w.heap.size,3,none⟩ (.int .i64 ((gr:Int)+1))=w6 at*;obtain ⟨c0,c1,c2,c3⟩:=h2.c;obtain ⟨f0,f1,f2,f3⟩:=h2.f;have HX:=Lib.hid h2;clear h2;clear d0 d3 d4 d5 d6 d7 d8
 go_wp2_with ((with_reducible refine wpList_store_st (o:=⟨none,.store 82 _ _,_,_,_,_⟩) rfl 82 _ _ rfl (w.heap.size+2) rfl rfl (run_storeAt_row _ (w.heap.size+2) 82 82 stO (stW (.slice aN l.length cN) (.slice (some ⟨g1,0,none⟩) (K+1+1:Nat) cap1) (.slice (some ⟨g2,0,none⟩) (K+1+1:Nat) cap2) ((gr:Int)+1)) ?_ ?_ ?_ ?_) ?_);exact HX.out.res;exact infoSt7;rfl;exact st_one7 _ _ _ _ _ _ _ _ _ _)
 have hE:=bx_end3 HU.out.1 HU.out.2.1 HU.out.2.2 HX.out (stW (.slice aN l.length cN) (.slice (some ⟨g1,0,none⟩) (K+1+1:Nat) cap1) (.slice (some ⟨g2,0,none⟩) (K+1+1:Nat) cap2) ((gr:Int)+1));exact bodyPost_ret (v:=.agg (stW (.slice aN l.length cN) (.slice (some ⟨g1,0,none⟩) (K+1+1:Nat) cap1) (.slice (some ⟨g2,0,none⟩) (K+1+1:Nat) cap2) ((gr:Int)+1))) (results_cell_row rfl _ _ (w.heap.size+2) 82 (stW (.slice aN l.length cN) (.slice (some ⟨g1,0,none⟩) (K+1+1:Nat) cap1) (.slice (some ⟨g2,0,none⟩) (K+1+1:Nat) cap2) ((gr:Int)+1)) (0,0) _ rfl (Blk.setRow HX.out.res) Tryz.underlying82 rfl infoSt7) rfl ⟨_,_,_,rfl,hE.1,hE.2⟩
set_option maxRecDepth 100000 in
set_option maxHeartbeats 16000000 in
theorem rtake3 {base N K:Nat} {A:Nat→Prop} {l:List NdN} {ps rs:List Nat} {n r gr:Nat} {vN vP vR:Value} (p f:Int) (t:BitVec 256) (n' m':Int) (w:World) {n2 r2 K2:Nat} (h:SV base N A l (ps++[n2]++[n]) (rs++[r2]++[r]) vN vP vR w) (hp:(ps++[n2]).length=K) (hq:(rs++[r2]).length=K) (hp2:ps.length=K2) (hq2:rs.length=K2) (hK:K=K2+1) (hl:l.length≤3999990) (hn:n≤2000000) (hn2:n2≤2000000) (hr':r≤2000000) (hp':K≤2000000):
 Calls Tryz.prog 68 #[.agg (stW vN vP vR gr),.agg (woI 3 p f t n' m')] w fun e w'=>∃vN' vP' vR',e=.returned (.agg (stW vN' vP' vR' gr))∧SV base N A (l++rowT n++rowsT (r+1)++[ndG]) (ps++[n2+1]) (rs++[r2]) vN' vP' vR' w'∧KpA A w w':=by
 obtain ⟨i0,hi0,hz0,hz1,hz2⟩:=info_parts info8n;have HRW:=Lib.hid (fun vN vP vR W (h:SV base (w.heap.size+3) (fun k=>A k∧k≠w.heap.size∧k≠w.heap.size+1∧k≠w.heap.size+2) l (ps++[n2]++[n]) (rs++[r2]++[r]) vN vP vR W)=>rrows_calls (gr:=gr) W h hp hq hl hn hr' hp');have HP2:=Lib.hid (And.intro hp2 hq2);have HK:=Lib.hid hK;have hl2':(l++rowT n++rowsT (r+1)).length≤4000000:=by
  rw [List.length_append,List.length_append];have h1:(rowT n).length≤1:=by
   unfold rowT
   by_cases h0:n=0
   ·rw [if_pos h0];exact Nat.le_refl _
   ·rw [if_neg h0]
    by_cases h1:n=1
    ·rw [if_pos h1];exact Nat.zero_le _
    ·rw [if_neg h1];exact Nat.le_refl _
  have h2:(rowsT (r+1)).length≤1:=by
   unfold rowsT
   by_cases h0:1<r+1
   ·rw [if_pos h0];exact Nat.le_refl _
   ·rw [if_neg h0];exact Nat.zero_le _
  omega
 have x58:IntKind.i64.wrap ((K:Int) - 1)=K2:=by rw [IntWalk.i64_in _ (by omega)];omega
 have kb2:K2≤2000000:=by omega
 clear hp2 hq2 hK;obtain ⟨aN,cN,rfl⟩:=h.formN;obtain ⟨gP,cP,rfl,_⟩:=h.topPK hp;obtain ⟨gR,cR,rfl,_⟩:=h.topRK hq;have hx:=bx_new3 (gr:Int) (woI 3 p f t n' m') h;have hW:Blk (((w.alloc (.cells (stW (.slice aN l.length cN) (.slice (some ⟨gP,0,none⟩) (K+1:Nat) cP) (.slice (some ⟨gR,0,none⟩) (K+1:Nat) cR) gr) 82)).alloc (.cells (woI 3 p f t n' m') 91)).alloc (.cells stO 82)) (w.heap.size+1) (woI 3 p f t n' m') 91:=by
  have:=(Blk.new (w.alloc (.cells (stW (.slice aN l.length cN) (.slice (some ⟨gP,0,none⟩) (K+1:Nat) cP) (.slice (some ⟨gR,0,none⟩) (K+1:Nat) cR) gr) 82)) (woI 3 p f t n' m') 91).alloc (.cells stO 82)
  rwa [World.size_alloc] at this
 have HU:=Lib.hid (And.intro h.sz (And.intro h.up h.bs));have HPQ:=Lib.hid (And.intro hp hq);clear h hp hq;go_enter Tryz.func68,Tryz.ntmps68
 go_upto_region 1 with fail
 have e0:((w.alloc (.cells #[.slice aN l.length cN,.slice (some ⟨gP,0,none⟩) (K+1:Nat) cP,.slice (some ⟨gR,0,none⟩) (K+1:Nat) cR,.int .i64 gr] 82)).alloc (.cells (woI 3 p f t n' m') 91)).alloc (.cells #[.slice none 0 0,.slice none 0 0,.slice none 0 0,.int .i64 0] 82)=((w.alloc (.cells (stW (.slice aN l.length cN) (.slice (some ⟨gP,0,none⟩) (K+1:Nat) cP) (.slice (some ⟨gR,0,none⟩) (K+1:Nat) cR) gr) 82)).alloc (.cells (woI 3 p f t n' m') 91)).alloc (.cells stO 82):=rfl
 try rw [e0]
 clear e0;generalize ((w.alloc (.cells (stW (.slice aN l.length cN) (.slice (some ⟨gP,0,none⟩) (K+1:Nat) cP) (.slice (some ⟨gR,0,none⟩) (K+1:Nat) cR) gr) 82)).alloc (.cells (woI 3 p f t n' m') 91)).alloc (.cells stO 82)=w1 at*;have d0:=hW.cell 0;have d3:=hW.cell 3;have d4:=hW.cell 4;have d5:=hW.cell 5;have d6:=hW.cell 6;have d7:=hW.cell 7;have d8:=hW.cell 8;simp only [List.getElem?_toArray,List.getElem?_cons_zero,List.getElem?_cons_succ] at d0 d3 d4 d5 d6 d7 d8;clear hW;obtain ⟨c0,c1,c2,c3⟩:=hx.c;obtain ⟨f0,f1,f2,f3⟩:=hx.f;obtain ⟨_,_,e,lP,kP,tP,yP⟩:=hx.sv.topPK HPQ.out.1
 cases e
 obtain ⟨_,_,e,lR,kR,tR,yR⟩:=hx.sv.topRK HPQ.out.2
 cases e
 have HX:=Lib.hid hx;clear hx;have q0:(0:Int)≤(K:Int):=by omega
 have q1:(K:Int)<((K+1:Nat):Int):=by omega
 go_wp2_with fail
 refine (HRW.out _ _ _ _ HX.out.sv).mono ?_;rintro e w2 ⟨vN',vP',vR',rfl,hs,hk⟩;clear d0 d3 d4 d5 d6 d7 d8;generalize hll:l++rowT n++rowsT (r+1)=l2 at*;have HLL:=Lib.hid hll;clear hll;obtain ⟨aM,cM,rfl⟩:=hs.formN;obtain ⟨gP2,cP2,rfl,_⟩:=hs.topPK HP2.out.1;obtain ⟨gR2,cR2,rfl,_⟩:=hs.topRK HP2.out.2;have hb2:=HX.out.blk.kpA hk HX.out.nB;have h2:=HX.out.call (g2:=(gr:Int)) hs hk;clear HRW HX hs hk c0 c1 c2 c3 f0 f1 f2 f3 lP kP tP yP lR kR tR yR;clear q0 q1
 go_upto_region 12 with ((with_reducible refine wpList_store_st (o:=⟨none,.store 82 _ _,_,_,_,_⟩) rfl 82 _ _ rfl w.heap.size rfl rfl (run_storeAt_row _ w.heap.size 82 82 (stW (.slice aN l.length cN) (.slice (some ⟨gP,0,none⟩) (K+1:Nat) cP) (.slice (some ⟨gR,0,none⟩) (K+1:Nat) cR) (gr:Int)) (stW (.slice aM l2.length cM) (.slice (some ⟨gP2,0,none⟩) (K2+1:Nat) cP2) (.slice (some ⟨gR2,0,none⟩) (K2+1:Nat) cR2) (gr:Int)) ?_ ?_ ?_ ?_) ?_);exact hb2;exact infoSt7;rfl;exact st_one7 _ _ _ _ _ _ _ _ _ _)
 clear hb2;generalize w2.setRow w.heap.size (stW (.slice aM l2.length cM) (.slice (some ⟨gP2,0,none⟩) (K2+1:Nat) cP2) (.slice (some ⟨gR2,0,none⟩) (K2+1:Nat) cR2) (gr:Int))=w3 at*;obtain ⟨c0,c1,c2,c3⟩:=h2.c;obtain ⟨f0,f1,f2,f3⟩:=h2.f;obtain ⟨_,_,e,lP,kP,tP,yP⟩:=h2.sv.topPK HP2.out.1
 cases e
 obtain ⟨_,_,e,lR,kR,tR,yR⟩:=h2.sv.topRK HP2.out.2
 cases e
 have HX:=Lib.hid h2;clear h2
 go_upto_region 13 with (at_builtin;go_loud (refine wpList_append_lies _ rfl _ _ 22 rfl base 45 i0 (.agg #[.int .i64 0,.int .i64 0,.int .i64 0,.int .i64 0,.int .u64 0,.int .u64 0,.int .u64 0,.int .u64 0]) 8 64 Tryz.underlying22 hi0 hz0 hz1 hz2 rfl (by decide) (.slice aM l2.length cM) l2.length (ndCells l2) rfl (HX.out.alloc _).sv.nodes ⟨w3.heap.size,0,none⟩ 1 1 [.int .i64 3,.int .i64 1,.int .i64 0,.int .i64 0,.int .u64 0,.int .u64 0,.int .u64 0,.int .u64 0] rfl rfl (World.news_of_block (cs:=[.int .i64 3,.int .i64 1,.int .i64 0,.int .i64 0,.int .u64 0,.int .u64 0,.int .u64 0,.int .u64 0].toArray) (t:=45) (fr:=(0,0)) (heap_alloc_new w3 _)) (by simp [Value.oneCell']) (by omega) (by simp only [maxLen];omega) (by omega) (by have:=HX.out.sv.sz;have:=HX.out.sv.bs;simp;omega) (w3.heap.size+1) (by simp) ?_);intro g' cap' w2 hown hgrow hat hlt;have hb2:=(HX.out.alloc _).blk.kept hgrow (fun e=>(HX.out.nB (HX.out.sv.aN _ e.symm)));have j0:=hb2.cell 0;have y0:=hb2.frozen 0;simp only [List.getElem?_toArray,List.getElem?_cons_zero] at j0)
 have h2:=(HX.out.alloc _).pushN (nd:=⟨3,1,0,0,0⟩) (by first|exact hown|(rw [nd_zero7];exact hown)) hgrow (hat.imp id fun e=>by rw [e];simp);clear HX hown hgrow hat hlt hb2 j0 y0;clear c0 c1 c2 c3 f0 f1 f2 f3 lP kP tP yP lR kR tR yR;generalize w2.setCell ⟨w.heap.size,0,none⟩ (.slice (some ⟨g',0,none⟩) (l2.length+1:Nat) cap')=w4 at*;obtain ⟨c0,c1,c2,c3⟩:=h2.c;obtain ⟨f0,f1,f2,f3⟩:=h2.f;obtain ⟨_,_,e,lP,kP,tP,yP⟩:=h2.sv.topPK HP2.out.1
 cases e
 obtain ⟨_,_,e,lR,kR,tR,yR⟩:=h2.sv.topRK HP2.out.2
 cases e
 have HX:=Lib.hid h2;clear h2;have q0:(0:Int)≤(K2:Int):=by omega
 have q1:(K2:Int)<((K2+1:Nat):Int):=by omega
 go_upto_region 18 with fail
 have h3:=HX.out.setPK HP2.out.1 (n2+1) (v:=(n2:Int)+1) rfl;clear HX;clear c0 c1 c2 c3 f0 f1 f2 f3 lP kP tP yP lR kR tR yR;generalize w4.setCell ⟨gP2,K2,none⟩ (.int .i64 ((n2:Int)+1))=w5 at*;obtain ⟨c0,c1,c2,c3⟩:=h3.c;obtain ⟨f0,f1,f2,f3⟩:=h3.f;obtain ⟨_,_,e,lP,kP,tP,yP⟩:=h3.sv.topPK HP2.out.1
 cases e
 obtain ⟨_,_,e,lR,kR,tR,yR⟩:=h3.sv.topRK HP2.out.2
 cases e
 have HX:=Lib.hid h3;clear h3
 go_wp2_with ((with_reducible refine wpList_store_st (o:=⟨none,.store 82 _ _,_,_,_,_⟩) rfl 82 _ _ rfl (w.heap.size+2) rfl rfl (run_storeAt_row _ (w.heap.size+2) 82 82 stO (stW (.slice (some ⟨g',0,none⟩) (l2.length+1:Nat) cap') (.slice (some ⟨gP2,0,none⟩) (K2+1:Nat) cP2) (.slice (some ⟨gR2,0,none⟩) (K2+1:Nat) cR2) (gr:Int)) ?_ ?_ ?_ ?_) ?_);exact HX.out.res;exact infoSt7;rfl;exact st_one7 _ _ _ _ _ _ _ _ _ _)
 have hE:=bx_end3 HU.out.1 HU.out.2.1 HU.out.2.2 HX.out (stW (.slice (some ⟨g',0,none⟩) (l2.length+1:Nat) cap') (.slice (some ⟨gP2,0,none⟩) (K2+1:Nat) cP2) (.slice (some ⟨gR2,0,none⟩) (K2+1:Nat) cR2) (gr:Int));exact bodyPost_ret (v:=.agg (stW (.slice (some ⟨g',0,none⟩) (l2.length+1:Nat) cap') (.slice (some ⟨gP2,0,none⟩) (K2+1:Nat) cP2) (.slice (some ⟨gR2,0,none⟩) (K2+1:Nat) cR2) (gr:Int))) (results_cell_row rfl _ _ (w.heap.size+2) 82 (stW (.slice (some ⟨g',0,none⟩) (l2.length+1:Nat) cap') (.slice (some ⟨gP2,0,none⟩) (K2+1:Nat) cP2) (.slice (some ⟨gR2,0,none⟩) (K2+1:Nat) cR2) (gr:Int)) (0,0) _ rfl (Blk.setRow HX.out.res) Tryz.underlying82 rfl infoSt7) rfl ⟨_,_,_,rfl,by rw [HLL.out];exact hE.1,hE.2⟩
end Go.Proofs.YtbccojjcdcighaaGreatDoor

namespace Go.Proofs.YtbccojjcdcighaaGreatDoor
open Go.RowKit Go.Shelf BS
theorem next_in (s:ByteArray) (a:Nat) (ha:a<s.size):nextA s a=nextN s a∧lackA s a=lackG5 s a:=by
 unfold nextN lackG5;rw [if_neg (by omega),if_neg (by omega)];exact ⟨rfl,rfl⟩
theorem next_far (s:ByteArray) (at':Int) (h:at'<0∨(s.size:Int)≤at'):nextN s at'=(zWN,1,0)∧lackG5 s at'=eT:=by
 unfold nextN lackG5;rw [if_pos h,if_pos h];exact ⟨rfl,rfl⟩
set_option maxRecDepth 100000 in
set_option maxHeartbeats 8000000 in
theorem read5_calls (s:ByteArray) (hs:s.size≤1000000) (at':Int) (w:World):Calls Tryz.prog 97 #[.string s,.int .i64 at'] w fun en w'=>en=.returned (.agg (rgA (nextN s at') (lackG5 s at')))∧Below w.heap.size w w':=by
 by_cases hin:0≤at'∧at'<s.size
 ·obtain ⟨a,rfl⟩:=Int.eq_ofNat_of_zero_le hin.1
  have h:=next_in s a (by omega);rw [←h.1,←h.2];exact read5_in s hs a (by omega) w
 have hfar:=next_far s at' (by omega);rw [hfar.1,hfar.2];have HF:=Lib.hid (fun w=>fault5_calls 1 0 w);have HR:=Lib.hid (Blk.new w (rgZ 0 0 0 0 0 0 0 eT) 142);have HB:Hid (Below w.heap.size w (w.alloc (.cells (rgZ 0 0 0 0 0 0 0 eT) 142))):=Lib.hid (by go_grown);have hz:w.heap.size+1≤(w.alloc (.cells (rgZ 0 0 0 0 0 0 0 eT) 142)).heap.size:=by simp
 go_enter Tryz.func97,Tryz.ntmps97
 go_upto_region 1 with fail
 have e0:w.alloc (.cells #[.int .i64 0,.int .i64 0,.int .i64 0,.int .u64 0,.int .u64 0,.int .u64 0,.int .u64 0,.int .i64 0,.int .i64 0,.int .i64 0,.int .i64 0,.string ⟨#[]⟩] 142)=w.alloc (.cells (rgZ 0 0 0 0 0 0 0 eT) 142):=rfl
 try rw [e0]
 clear e0;generalize w.alloc (.cells (rgZ 0 0 0 0 0 0 0 eT) 142)=w1 at*
 by_cases hneg:at'<0
 ·have q:decide (at'<0)=true:=by simpa using hneg
  clear hin hfar hneg
  go_wp2_with fail
  refine (HF.out _).mono ?_;rintro en w2 ⟨rfl,hb⟩;replace HR:=Lib.hid (HR.out.below hb (Blk.lt HR.out));replace HB:=Lib.hid (HB.out.trans (hb.mono (by omega)));replace hz:=Nat.le_trans hz hb.size;clear hb HF
  go_wp2_with ((with_reducible refine wpList_store_st (o:=⟨none,.store 142 _ _,_,_,_,_⟩) rfl 142 _ _ rfl w.heap.size rfl rfl (run_storeAt_row _ w.heap.size 142 142 (rgZ 0 0 0 0 0 0 0 eT) (rgZ 0 0 0 0 0 1 0 eT) ?_ ?_ ?_ ?_) ?_);exact HR.out;exact infoRg;rfl;exact rg_one _ _ _ 0 _ _ _ _ _)
  exact bodyPost_ret (v:=.agg (rgZ 0 0 0 0 0 1 0 eT)) (results_cell_row rfl _ _ w.heap.size 142 (rgZ 0 0 0 0 0 1 0 eT) (0,0) _ rfl (Blk.setRow HR.out) Tryz.underlying142 rfl infoRg) rfl ⟨by rw [rgZ_eq];rfl,below_row HB.out (Nat.le_refl _) _⟩
 ·have q:decide (at'<0)=false:=by rw [decide_eq_false_iff_not];omega
  have q1:decide ((s.size:Int)≤at')=true:=by rw [decide_eq_true_iff];omega
  clear hin hfar hneg
  go_wp2_with fail
  refine (HF.out _).mono ?_;rintro en w2 ⟨rfl,hb⟩;replace HR:=Lib.hid (HR.out.below hb (Blk.lt HR.out));replace HB:=Lib.hid (HB.out.trans (hb.mono (by omega)));replace hz:=Nat.le_trans hz hb.size;clear hb HF
  go_wp2_with ((with_reducible refine wpList_store_st (o:=⟨none,.store 142 _ _,_,_,_,_⟩) rfl 142 _ _ rfl w.heap.size rfl rfl (run_storeAt_row _ w.heap.size 142 142 (rgZ 0 0 0 0 0 0 0 eT) (rgZ 0 0 0 0 0 1 0 eT) ?_ ?_ ?_ ?_) ?_);exact HR.out;exact infoRg;rfl;exact rg_one _ _ _ 0 _ _ _ _ _)
  exact bodyPost_ret (v:=.agg (rgZ 0 0 0 0 0 1 0 eT)) (results_cell_row rfl _ _ w.heap.size 142 (rgZ 0 0 0 0 0 1 0 eT) (0,0) _ rfl (Blk.setRow HR.out) Tryz.underlying142 rfl infoRg) rfl ⟨by rw [rgZ_eq];rfl,below_row HB.out (Nat.le_refl _) _⟩
theorem Blk.otherRow {W:World} {B B':Nat} {vs cs:Array Value} {t:TypeId} (h:Blk W B vs t) (hne:B'≠B):Blk (W.setRow B' cs) B vs t:=by
 show (W.heap.modify B' _)[B]? =_
 rw [Array.getElem?_modify];rw [if_neg hne];exact h
def SN5 (w:World) (B:Nat) (d c:Array Value) (W:World):Prop:=(Blk W w.heap.size d 91∧Blk W B c 142∧w.heap.size+1≤B)∧Below w.heap.size w W
theorem SN5.drewS {w W:World} {B:Nat} {d c:Array Value} (h:SN5 w B d c W):SN5 w B d c W.drew:=⟨⟨h.1.1,h.1.2.1,h.1.2.2⟩,h.2.drew⟩
theorem SN5.store {w W:World} {B:Nat} {d c:Array Value} (h:SN5 w B d c W) (cs:Array Value):SN5 w B cs c (W.setRow w.heap.size cs):=
 ⟨⟨Blk.setRow h.1.1,h.1.2.1.otherRow (by have:=h.1.2.2;omega),h.1.2.2⟩,below_row h.2 (Nat.le_refl _) _⟩
@[reducible] def woZ:Array Value:=#[.int .i64 0,.int .i64 0,.int .i64 0,.int .u64 0,.int .u64 0,.int .u64 0,.int .u64 0,.int .i64 0,.int .i64 0]
set_option maxRecDepth 100000 in
set_option maxHeartbeats 8000000 in
theorem next5_dev (s:ByteArray) (hs:s.size≤1000000) (at':Int) (w:World):Calls Tryz.prog 71 #[.string s,.int .i64 at'] w fun en w'=>en=.returned (.tuple #[.agg (woA (nextN s at').1),.int .i64 (nextN s at').2.1,.int .i64 (nextN s at').2.2])∧Below w.heap.size w w':=by
 have HR:=Lib.hid (Blk.new w woZ 91);have HB:Hid (Below w.heap.size w (w.alloc (.cells woZ 91))):=Lib.hid (by go_grown);have hz:w.heap.size+1≤(w.alloc (.cells woZ 91)).heap.size:=by simp
 have HW:=read5_calls s hs at';generalize lackG5 s at'=l at*;generalize nextN s at'=X at*;obtain ⟨⟨k,p,e,t,n,m⟩,er,pl⟩:=X;replace HW:Hid (∀w,Calls Tryz.prog 97 #[.string s,.int .i64 at'] w fun en w'=>en=.returned (.agg (rgI k p e t n m er pl l))∧Below w.heap.size w w'):=Lib.hid HW
 show Calls Tryz.prog 71 #[.string s,.int .i64 at'] w fun en w'=>en=.returned (.tuple #[.agg (woI k p e t n m),.int .i64 er,.int .i64 pl])∧Below w.heap.size w w'
 go_enter Tryz.func71,Tryz.ntmps71
 go_upto_region 1 with fail
 have e0:w.alloc (.cells #[.int .i64 0,.int .i64 0,.int .i64 0,.int .u64 0,.int .u64 0,.int .u64 0,.int .u64 0,.int .i64 0,.int .i64 0] 91)=w.alloc (.cells woZ 91):=rfl
 try rw [e0]
 clear e0;generalize w.alloc (.cells woZ 91)=w1 at*
 go_wp2_with fail
 refine (HW.out _).mono ?_;rintro en w2 ⟨rfl,hb⟩;replace HR:=Lib.hid (HR.out.below hb (Blk.lt HR.out));replace HB:=Lib.hid (HB.out.trans (hb.mono (by omega)));replace hz:=Nat.le_trans hz hb.size;clear hb HW
 go_upto_region 2 with fail
 have HP:=Lib.hid (Blk.new w2 (rgI k p e t n m er pl l) 142);replace HR:=Lib.hid (HR.out.alloc (.cells (rgI k p e t n m er pl l) 142));replace HB:=Lib.hid (HB.out.alloc (by omega) (.cells (rgI k p e t n m er pl l) 142));generalize w2.alloc (.cells (rgI k p e t n m er pl l) 142)=w3 at*;generalize w2.heap.size=B at*;have H0:=Lib.hid (show SN5 w B woZ (rgI k p e t n m er pl l) w3 from ⟨⟨HR.out,HP.out,hz⟩,HB.out⟩);clear HR HB HP hz;refine region_stepsL (S0:=SN5 w B woZ (rgI k p e t n m er pl l)) (S1:=SN5 w B (woI k p e t n m) (rgI k p e t n m er pl l)) (m:=6) (by kernel_rfl) (by kernel_rfl) (SN5.drewS H0.out) ?_;clear H0;simp only [List.size_toArray,List.length_cons,List.length_nil,Nat.reduceAdd,Array.replicate_succ,Array.replicate_zero,List.push_toArray,List.nil_append,List.cons_append];refine AnyL.next (m:=6) (i:=0) (d:=some 11) (v:=.pointer (some ⟨B,0,none⟩)) rfl rfl (by kernel_rfl) (by kernel_rfl) (by kernel_rfl) (by kernel_rfl) (StepsIf.yield (by kernel_rfl) (fun w' hS=>by clear hS;go_simp)) ?_;intro a' ha';simp only [Act.put,List.setIfInBounds_toArray,List.set_cons_zero,List.set_cons_succ] at ha';subst ha';refine AnyL.next (m:=6) (i:=1) (d:=some 12) (v:=.agg (woI k p e t n m)) rfl rfl (by kernel_rfl) (by kernel_rfl) (by kernel_rfl) (by kernel_rfl) (StepsIf.yield (by kernel_rfl) (fun w' hS=>by have c0:=hS.1.2.1.cell 0;have c1:=hS.1.2.1.cell 1;have c2:=hS.1.2.1.cell 2;have c3:=hS.1.2.1.cell 3;have c4:=hS.1.2.1.cell 4;have c5:=hS.1.2.1.cell 5;have c6:=hS.1.2.1.cell 6;have c7:=hS.1.2.1.cell 7;have c8:=hS.1.2.1.cell 8;simp only [List.getElem?_toArray,List.getElem?_cons_zero,List.getElem?_cons_succ] at c0 c1 c2 c3 c4 c5 c6 c7 c8;clear hS;go_simp)) ?_;intro a' ha';simp only [Act.put,List.setIfInBounds_toArray,List.set_cons_zero,List.set_cons_succ] at ha';subst ha';refine AnyL.both (m:=6) (i:=2) (d:=some 13) (v:=.pointer (some ⟨B,9,none⟩)) rfl rfl (by kernel_rfl) (by kernel_rfl) (by kernel_rfl) (by kernel_rfl) (StepsIf.yield (by kernel_rfl) (fun w' hS=>by clear hS;go_simp)) (StepsIf.yield (by kernel_rfl) (fun w' hS=>by clear hS;go_simp)) ?_;intro a' ha';simp only [Act.put,List.setIfInBounds_toArray,List.set_cons_zero,List.set_cons_succ] at ha';subst ha';refine AnyL.both (m:=6) (i:=3) (d:=some 14) (v:=.int .i64 er) rfl rfl (by kernel_rfl) (by kernel_rfl) (by kernel_rfl) (by kernel_rfl) (StepsIf.yield (by kernel_rfl) (fun w' hS=>by have c9:=hS.1.2.1.cell 9;simp only [List.getElem?_toArray,List.getElem?_cons_zero,List.getElem?_cons_succ] at c9;clear hS;go_simp)) (StepsIf.yield (by kernel_rfl) (fun w' hS=>by have c9:=hS.1.2.1.cell 9;simp only [List.getElem?_toArray,List.getElem?_cons_zero,List.getElem?_cons_succ] at c9;clear hS;go_simp)) ?_;intro a' ha';simp only [Act.put,List.setIfInBounds_toArray,List.set_cons_zero,List.set_cons_succ] at ha';subst ha';refine AnyL.both (m:=6) (i:=4) (d:=some 15) (v:=.pointer (some ⟨B,10,none⟩)) rfl rfl (by kernel_rfl) (by kernel_rfl) (by kernel_rfl) (by kernel_rfl) (StepsIf.yield (by kernel_rfl) (fun w' hS=>by clear hS;go_simp)) (StepsIf.yield (by kernel_rfl) (fun w' hS=>by clear hS;go_simp)) ?_;intro a' ha';simp only [Act.put,List.setIfInBounds_toArray,List.set_cons_zero,List.set_cons_succ] at ha';subst ha';refine AnyL.both (m:=6) (i:=5) (d:=some 16) (v:=.int .i64 pl) rfl rfl (by kernel_rfl) (by kernel_rfl) (by kernel_rfl) (by kernel_rfl) (StepsIf.yield (by kernel_rfl) (fun w' hS=>by have c10:=hS.1.2.1.cell 10;simp only [List.getElem?_toArray,List.getElem?_cons_zero,List.getElem?_cons_succ] at c10;clear hS;go_simp)) (StepsIf.yield (by kernel_rfl) (fun w' hS=>by have c10:=hS.1.2.1.cell 10;simp only [List.getElem?_toArray,List.getElem?_cons_zero,List.getElem?_cons_succ] at c10;clear hS;go_simp)) ?_;intro a' ha';simp only [Act.put,List.setIfInBounds_toArray,List.set_cons_zero,List.set_cons_succ] at ha';subst ha';refine AnyL.store (m:=6) (d:=none) (v:=undef) rfl rfl (by kernel_rfl) (by kernel_rfl) (by kernel_rfl) (fun w' hS K Q hK=>by exact wp_store_row 91 _ _ rfl w.heap.size rfl rfl (run_storeAt_row _ w.heap.size 91 91 woZ (woI k p e t n m) hS.1.1 infoWo rfl (wo_one _ _ _ _ _ _)) (hK _ (SN5.store hS _))) ?_;intro a' ha';simp only [Act.put] at ha';subst ha';refine AnyL.after (m:=6) (i:=7) (d:=some 5) (v:=.int .i64 er) rfl rfl (by kernel_rfl) (by kernel_rfl) (by kernel_rfl) (by kernel_rfl) (StepsIf.yield (by kernel_rfl) (fun w' hS=>by clear hS;go_simp)) ?_;intro a' ha';simp only [Act.put,List.setIfInBounds_toArray,List.set_cons_zero,List.set_cons_succ] at ha';subst ha';refine AnyL.after (m:=6) (i:=8) (d:=some 6) (v:=.int .i64 pl) rfl rfl (by kernel_rfl) (by kernel_rfl) (by kernel_rfl) (by kernel_rfl) (StepsIf.yield (by kernel_rfl) (fun w' hS=>by clear hS;go_simp)) ?_;intro a' ha';simp only [Act.put,List.setIfInBounds_toArray,List.set_cons_zero,List.set_cons_succ] at ha';subst ha';refine AnyL.done (by kernel_rfl) (by kernel_rfl) (fun w' hS=>?_) _;have hR:=hS.1.1;have hB:=hS.2;clear hS
 go_wp2_with fail
 exact bodyPost_ret (v:=.tuple #[.agg (woI k p e t n m),.int .i64 er,.int .i64 pl]) (results_cell2 Tryz.results71 _ _ w.heap.size 91 (woI k p e t n m) (0,0) _ rfl hR Tryz.underlying91 rfl infoWo) rfl ⟨rfl,hB⟩
theorem cnt_el (g:Nat→Bool):∀k,cnt g k=(el g k).length
 |0=>rfl
 |k+1=>by
  have h:el g (k+1)=el g k++(if g k then [k] else []):=by
   unfold el;rw [List.range_succ,List.filter_append]
   congr 1
   cases hg:g k<;>simp [hg]
  rw [cnt,cnt_el g k,h,List.length_append]
  cases g k<;>rfl
theorem any_len (t : BitVec 256) : t = ~~~0 ↔ (el t.getLsbD 256).length = 256 := by
 constructor
 ·rintro rfl
  decide +kernel
 ·intro h
  have hf : ∀ x ∈ List.range 256, t.getLsbD x = true := by
   have e : (el t.getLsbD 256).length = (List.range 256).length := by rw [h, List.length_range]
   unfold el at e
   exact List.length_filter_eq_length_iff.1 e
  apply BitVec.eq_of_getLsbD_eq
  intro i hi
  rw [hf i (List.mem_range.2 hi)]
  symm
  rw [BitVec.getLsbD_not]
  simp [hi]
theorem next_el (t:BitVec 256) (b:Nat) (l:List Nat) (h:el t.getLsbD 256=b::l):nextOf t.getLsbD 0=b:=by
 have hf:(List.range 256).find? (fun j=>decide (0≤j) && t.getLsbD j)=some b:=by
  have e:(fun j=>decide (0≤j) && t.getLsbD j)=t.getLsbD:=by funext j;simp
  rw [e];have:=List.head?_filter (p:=t.getLsbD) (l:=List.range 256);rw [←this];unfold el at h;rw [h];rfl
 unfold nextOf;rw [hf]
theorem textW_cases (t : BitVec 256) : (t = ~~~0 ∧ textW t = [46]) ∨ (t ≠ ~~~0 ∧ cnt t.getLsbD 256 = 1 ∧ ∃ b : Nat, b < 256 ∧ nextOf t.getLsbD 0 = b ∧ textW t = textB b) ∨ (t ≠ ~~~0 ∧ cnt t.getLsbD 256 ≠ 1 ∧ textW t = textT t) := by
 have h1 := any_len t
 have h2 := cnt_el t.getLsbD 256
 have h3 := next_el t
 have h4 : ∀ b l, el t.getLsbD 256 = b :: l → b < 256 := fun b l h => by
  have : b ∈ el t.getLsbD 256 := by rw [h]; exact List.mem_cons_self ..
  unfold el at this
  simp at this
  exact this.1
 unfold textW
 by_cases hA : (el t.getLsbD 256).length = 256
 ·exact .inl ⟨h1.2 hA, by rw [if_pos hA]⟩
 by_cases hO : (el t.getLsbD 256).length = 1
 ·obtain ⟨b, hb⟩ := List.length_eq_one_iff.1 hO
  refine .inr (.inl ⟨fun h => hA (h1.1 h), by rw [h2, hO], b, h4 b [] hb, h3 b [] hb, ?_⟩)
  rw [if_neg hA, if_neg (by omega), hb]
  rfl
 ·exact .inr (.inr ⟨fun h => hA (h1.1 h), by rw [h2]; exact hO, by rw [if_neg hA, if_pos hO]⟩)
set_option maxRecDepth 100000 in
set_option maxHeartbeats 8000000 in
theorem text5_dev (t:BitVec 256) (w:World) (hT:Tab w) (hgT:1<w.heap.size):Calls Tryz.prog 57 #[setV t] w fun en w'=>en=.returned (.string (ofT (textW t)))∧Below w.heap.size w w':=by
 have hs0:SX w t (w.alloc (.cells (setA t) 43)):=⟨⟨Blk.new w _ _,by go_grown⟩,hT.keep (by go_grown:Below w.heap.size w (w.alloc (.cells (setA t) 43))) hgT,by simp<;>omega⟩;have HS0:=Lib.hid hs0;clear hs0 hT hgT;have heq:=eq_set t (~~~0);have HC:=textW_cases t;have HCN:=Lib.hid (count_calls t);have HNX:=Lib.hid (fun (W:World) (h:SX w t W)=>next_calls t 0 W (by omega) h.2.1 h.2.2);have HTX:=Lib.hid (fun (W:World) (h:SX w t W)=>dText_calls t W h.2.1 h.2.2);have han:=cAny_calls;generalize hZ:(~~~0:BitVec 256)=z at*;go_enter Tryz.func57,Tryz.ntmps57
 go_upto_region 1 with fail
 have e0:w.alloc (.cells #[.int .u64 (wd t 0),.int .u64 (wd t 1),.int .u64 (wd t 2),.int .u64 (wd t 3)] 43)=w.alloc (.cells (setA t) 43):=rfl
 try rw [e0]
 clear e0;generalize w.alloc (.cells (setA t) 43)=w1 at*;refine region_steps (S:=SX w t) (by kernel_rfl) (SX.drewS HS0.out) ?_;clear HS0;simp only [List.size_toArray,List.length_cons,List.length_nil,Nat.reduceAdd,Array.replicate_succ,Array.replicate_zero,List.push_toArray,List.nil_append,List.cons_append];refine AnyS.next (i:=0) (d:=some 4) (v:=setV t) rfl rfl (by kernel_rfl) (by kernel_rfl) (by kernel_rfl) (StepsIf.yield (by kernel_rfl) (fun w' hS=>by obtain ⟨⟨c0,c1,c2,c3⟩,_⟩:=hS.1.1.cells4;clear hS;go_simp)) ?_;intro a' ha';simp only [Act.put,List.setIfInBounds_toArray,List.set_cons_zero,List.set_cons_succ] at ha';subst ha';refine AnyS.next (i:=1) (d:=some 5) (v:=setV z) rfl rfl (by kernel_rfl) (by kernel_rfl) (by kernel_rfl) (StepsIf.call (by kernel_rfl) (fun w' hS=>by clear hS;go_simp) (fun w' hS=>(han w').mono fun e w'' h=>⟨h.1,hS.keep h.2⟩)) ?_;intro a' ha';simp only [Act.put,List.setIfInBounds_toArray,List.set_cons_zero,List.set_cons_succ] at ha';subst ha';refine AnyS.next (i:=2) (d:=some 6) (v:=.bool (decide (t=z))) rfl rfl (by kernel_rfl) (by kernel_rfl) (by kernel_rfl) (StepsIf.yield (by kernel_rfl) (fun w' hS=>by have q:=heq;clear hS;go_simp)) ?_;intro a' ha';simp only [Act.put,List.setIfInBounds_toArray,List.set_cons_zero,List.set_cons_succ] at ha';subst ha';refine AnyS.next (i:=3) (d:=some 3) (v:=.bool (decide (t=z))) rfl rfl (by kernel_rfl) (by kernel_rfl) (by kernel_rfl) (StepsIf.yield (by kernel_rfl) (fun w' hS=>by clear hS;go_simp)) ?_;intro a' ha';simp only [Act.put,List.setIfInBounds_toArray,List.set_cons_zero,List.set_cons_succ] at ha';subst ha';refine AnyS.done (by kernel_rfl) ?_ _;intro w2 hS2;clear heq han;rcases HC with ⟨h1,h2⟩|⟨h1,h2,b,h3,h4,h5⟩|⟨h1,h2,h3⟩
 ·have q:decide (t=z)=true:=decide_eq_true h1
  rw [q];have HY:=Lib.hid h2;clear h1 h2 HCN HNX HTX q
  go_wp2_with fail
  go_ret;exact ⟨by rw [HY.out]<;>rfl,hS2.1.2⟩
 ·have q:decide (t=z)=false:=decide_eq_false h1
  rw [q];have HTB:=Lib.hid (textByte_calls b h3);have HY:=Lib.hid h5;have xb:IntKind.u8.wrap (b:Int)=b:=IntWalk.u8_in _ (by omega);have HN4:=Lib.hid h4;rw [h2] at HCN;obtain ⟨⟨c0,c1,c2,c3⟩,_⟩:=hS2.1.1.cells4;clear h1 h2 h4 h5 HTX q
  go_wp2_with fail
  refine (HCN.out _).mono ?_;rintro en w3 ⟨rfl,hb⟩;have hS3:=hS2.keep hb;clear hb HCN hS2 c0 c1 c2 c3;obtain ⟨⟨c0,c1,c2,c3⟩,_⟩:=hS3.1.1.cells4
  go_wp2_with fail
  have hnx:=HNX.out _ hS3;rw [show (0:Int).toNat=0 from rfl,HN4.out] at hnx;refine hnx.mono ?_;rintro en w4 ⟨rfl,hb⟩;have hS4:=hS3.keep hb;clear hb hnx HNX hS3 c0 c1 c2 c3 HN4
  go_wp2_with fail
  refine (HTB.out _).mono ?_;rintro en w5 ⟨rfl,hb⟩;have hS5:=hS4.keep hb;clear hb HTB hS4
  go_wp2_with fail
  go_ret;exact ⟨by rw [HY.out]<;>rfl,hS5.1.2⟩
 ·have q:decide (t=z)=false:=decide_eq_false h1
  rw [q];have q1:((cnt t.getLsbD 256:Int)==1)=false:=by rw [beq_eq_false_iff_ne];omega
  have HY:=Lib.hid h3;obtain ⟨⟨c0,c1,c2,c3⟩,_⟩:=hS2.1.1.cells4;clear h1 h2 h3 HNX q;generalize cnt t.getLsbD 256=c at*
  go_wp2_with fail
  refine (HCN.out _).mono ?_;rintro en w3 ⟨rfl,hb⟩;have hS3:=hS2.keep hb;clear hb HCN hS2 c0 c1 c2 c3;obtain ⟨⟨c0,c1,c2,c3⟩,_⟩:=hS3.1.1.cells4
  go_wp2_with fail
  refine (HTX.out _ hS3).mono ?_;rintro en w4 ⟨rfl,hb⟩;have hS4:=hS3.keep hb;clear hb HTX hS3 c0 c1 c2 c3
  go_wp2_with fail
  go_ret;exact ⟨by rw [HY.out]<;>rfl,hS4.1.2⟩
end Go.Proofs.YtbccojjcdcighaaGreatDoor

namespace Go.Proofs.YtbccojjcdcighaaGreatDoor
open Go.RowKit BS
@[reducible] def set9 (W:World) (B:Nat) (b0 b1 b2 b3 b4 b5 b6 b7 b8:Value):World:=
 ((((((((W.setCell ⟨B,0,none⟩ b0).setCell ⟨B,1,none⟩ b1).setCell ⟨B,2,none⟩ b2).setCell ⟨B,3,none⟩ b3).setCell ⟨B,4,none⟩ b4).setCell ⟨B,5,none⟩ b5).setCell ⟨B,6,none⟩ b6).setCell ⟨B,7,none⟩ b7).setCell ⟨B,8,none⟩ b8
theorem Blk.set9 {W:World} {B:Nat} {a0 a1 a2 a3 a4 a5 a6 a7 a8:Value} {T:TypeId} (h:Blk W B #[a0,a1,a2,a3,a4,a5,a6,a7,a8] T) (b0 b1 b2 b3 b4 b5 b6 b7 b8:Value):Blk (_root_.Go.Proofs.YtbccojjcdcighaaGreatDoor.set9 W B b0 b1 b2 b3 b4 b5 b6 b7 b8) B #[b0,b1,b2,b3,b4,b5,b6,b7,b8] T:=by
 have:=((((((((h.set 0 b0).set 1 b1).set 2 b2).set 3 b3).set 4 b4).set 5 b5).set 6 b6).set 7 b7).set 8 b8
 simpa using this
theorem RdV.other {base R:Nat} {s:ByteArray} {a:Nat} {x:PS} {vN vL:Value} {w0 w:World} (h:RdV base R s a x vN vL w0 w) {g:Nat} (hg:base≤g) (hR:R≠g) (hN:vN.ownBlock≠some g) (hL:vL.ownBlock≠some g) (i:Nat) (v:Value):RdV base R s a x vN vL w0 (w.setCell ⟨g,i,none⟩ v):=
 ⟨h.blk.other hR _ _,owns_keep h.nodes fun _ hk=>Below.heap_setCell _ _ _ _ (fun e=>hN (by rw [hk,e])),owns_keep h.levels fun _ hk=>Below.heap_setCell _ _ _ _ (fun e=>hL (by rw [hk,e])),h.nR,h.lR,h.nl,h.bR,below_set h.bel hg _ _⟩
theorem RdV.other9 {base R:Nat} {s:ByteArray} {a:Nat} {x:PS} {vN vL:Value} {w0 w:World} (h:RdV base R s a x vN vL w0 w) {g:Nat} (hg:base≤g) (hR:R≠g) (hN:vN.ownBlock≠some g) (hL:vL.ownBlock≠some g) (b0 b1 b2 b3 b4 b5 b6 b7 b8:Value):RdV base R s a x vN vL w0 (set9 w g b0 b1 b2 b3 b4 b5 b6 b7 b8):=
 (((((((((h.other hg hR hN hL _ _).other hg hR hN hL _ _).other hg hR hN hL _ _).other hg hR hN hL _ _).other hg hR hN hL _ _).other hg hR hN hL _ _).other hg hR hN hL _ _).other hg hR hN hL _ _).other hg hR hN hL _ _)
theorem Blk.other9 {W:World} {B g:Nat} {vs:Array Value} {T:TypeId} (h:Blk W B vs T) (hne:B≠g) (b0 b1 b2 b3 b4 b5 b6 b7 b8:Value):Blk (_root_.Go.Proofs.YtbccojjcdcighaaGreatDoor.set9 W g b0 b1 b2 b3 b4 b5 b6 b7 b8) B vs T:=
 ((((((((h.other hne _ _).other hne _ _).other hne _ _).other hne _ _).other hne _ _).other hne _ _).other hne _ _).other hne _ _).other hne _ _
theorem row_kept (W:World) (B:Nat) (cs:Array Value) (k:Nat) (h:k≠B):(W.setRow B cs).heap[k]? =W.heap[k]?:=by
 show (W.heap.modify B _)[k]? =_
 rw [Array.getElem?_modify,if_neg (Ne.symm h)]
theorem RdV.rowOther {base R:Nat} {s:ByteArray} {a:Nat} {x:PS} {vN vL:Value} {w0 w:World} (h:RdV base R s a x vN vL w0 w) {g:Nat} (hg:base≤g) (hR:R≠g) (hN:vN.ownBlock≠some g) (hL:vL.ownBlock≠some g) (cs:Array Value):RdV base R s a x vN vL w0 (w.setRow g cs):=
 ⟨(row_kept w g cs R hR).trans h.blk,owns_keep h.nodes fun _ hk=>row_kept _ _ _ _ (fun e=>hN (by rw [hk,e])),owns_keep h.levels fun _ hk=>row_kept _ _ _ _ (fun e=>hL (by rw [hk,e])),h.nR,h.lR,h.nl,h.bR,below_row h.bel hg _⟩
set_option maxRecDepth 100000 in
set_option maxHeartbeats 8000000 in
theorem pnext_calls {base R:Nat} {s:ByteArray} (hs:s.size≤1000000) {a:Nat} {x:PS} {vN vL:Value} {w0:World} (k p e':Nat) (t:BitVec 256) (n:Nat) (m:Int) (er pl:Nat) (hX:nextN s a=(⟨k,p,e',t,n,m⟩,er,pl)) (w:World) (h:RdV base R s a x vN vL w0 w):
    Calls Tryz.prog 47 #[.pointer (some ⟨R,0,none⟩)] w fun e w'=>e=.returned (.tuple #[.agg (woI k p e' t n m),.int .i64 er,.int .i64 pl])∧
      RdV base R s (if er=0 then e' else a) x vN vL w0 w':=by
  have hn:=next5_dev s hs a
  rw [hX] at hn
  have HN:Hid (∀w,Calls Tryz.prog 71 #[.string s,.int .i64 a] w fun en w'=>en=.returned (.tuple #[.agg (woI k p e' t n m),.int .i64 er,.int .i64 pl])∧Below w.heap.size w w'):=Lib.hid hn
  clear hn hX
  have hB:=Blk.new w woZ 91
  have hr:=h.alloc (.cells woZ 91)
  have hRB:R<w.heap.size:=h.blk.lt
  have hN0:vN.ownBlock≠some w.heap.size:=fun e=>by have:=owns_lt h.nodes e;omega
  have hL0:vL.ownBlock≠some w.heap.size:=fun e=>by have:=owns_lt h.levels e;omega
  have hb0:=h.size
  clear h
  go_enter Tryz.func47,Tryz.ntmps47
  go_upto_region 1 with fail
  have e0:w.alloc (.cells #[.int .i64 0,.int .i64 0,.int .i64 0,.int .u64 0,.int .u64 0,.int .u64 0,.int .u64 0,.int .i64 0,.int .i64 0] 91)=w.alloc (.cells woZ 91):=rfl
  try rw [e0]
  clear e0
  generalize w.alloc (.cells woZ 91)=w1 at*
  generalize w.heap.size=B0 at*
  have cR0:=hr.c.1
  have cR1:=hr.c.2.1
  have HR:=Lib.hid hr
  have HB:=Lib.hid hB
  have n0:=World.new_ne w1 ⟨R,0,none⟩ cR0
  have n1:=World.new_ne w1 ⟨R,1,none⟩ cR1
  have hlt:=hr.blk.lt
  have hN1:vN.ownBlock≠some w1.heap.size:=fun e=>by have:=owns_lt hr.nodes e;omega
  have hL1:vL.ownBlock≠some w1.heap.size:=fun e=>by have:=owns_lt hr.levels e;omega
  have hB1:=hB.lt
  have hbs:=hr.size
  clear hr hB
  go_cut [5,6,7] from 8 to 20 (fun v5 v6 v7 wx=>∃g:Nat,v5=.pointer (some ⟨g,0,none⟩)∧v6=.int .i64 er∧v7=.int .i64 pl∧RdV base R s a x vN vL w0 wx∧Blk wx B0 woZ 91∧Blk wx g (woI k p e' t n m) 91∧B0≠g∧R≠g∧base≤g)
  case first=>
    go_region_held3 (fun w'=>w'.cell? ⟨R,0,none⟩=some (.string s)∧w'.cell? ⟨R,1,none⟩=some (.int .i64 a))
      (first
        |go_keep
        |exact ⟨k0,k1⟩
        |exact ⟨((hb.alloc hb.size _).cell (p:=⟨R,0,none⟩) hlt).trans cR0,((hb.alloc hb.size _).cell (p:=⟨R,1,none⟩) hlt).trans cR1⟩
        |(go_split_ands;refine ⟨by go_keep,by go_keep⟩))
      ((go_at_call 71;refine (HN.out _).mono ?_;rintro en w3 ⟨rfl,hb⟩
        have k0:w3.cell? ⟨R,0,none⟩=some (.string s):=by first|exact (hb.cell (p:=⟨R,0,none⟩) hlt).trans cR0|exact (hb.cell (p:=⟨R,0,none⟩) (by simp;omega)).trans (by go_keep)
        have k1:w3.cell? ⟨R,1,none⟩=some (.int .i64 a):=by first|exact (hb.cell (p:=⟨R,1,none⟩) hlt).trans cR1|exact (hb.cell (p:=⟨R,1,none⟩) (by simp;omega)).trans (by go_keep)
        try (have hg:=(Blk.new w1 woZ 91).drew.below hb (by simp)
             have z0:=hg.cell 0;have z1:=hg.cell 1;have z2:=hg.cell 2;have z3:=hg.cell 3;have z4:=hg.cell 4;have z5:=hg.cell 5;have z6:=hg.cell 6;have z7:=hg.cell 7;have z8:=hg.cell 8
             simp only [List.getElem?_toArray,List.getElem?_cons_zero,List.getElem?_cons_succ] at z0 z1 z2 z3 z4 z5 z6 z7 z8
             have y0:=hg.frozen 0;have y1:=hg.frozen 1;have y2:=hg.frozen 2;have y3:=hg.frozen 3;have y4:=hg.frozen 4;have y5:=hg.frozen 5;have y6:=hg.frozen 6;have y7:=hg.frozen 7;have y8:=hg.frozen 8
             have HG:=Lib.hid hg
             clear hg)))
    · have hsz:w1.heap.size≤w3.heap.size:=hb.size
      go_wp2_with fail
      go_meet
      exact ⟨w3.heap.size,rfl,rfl,rfl,(HR.out.drew.below hb).alloc _,(HB.out.drew.below hb hB1).alloc _,Blk.new w3 (woI k p e' t n m) _,by omega,by omega,by omega⟩
    · go_wp2_with fail
      go_meet
      have hB2:B0<(w1.alloc (.cells woZ 91)).drew.heap.size:=by simp;omega
      exact ⟨w1.heap.size,rfl,rfl,rfl,((HR.out.alloc _).drew.below hb).other9 hbs (by omega) hN1 hL1 _ _ _ _ _ _ _ _ _,(((HB.out.alloc _).drew).below hb hB2).other9 (by omega) _ _ _ _ _ _ _ _ _,Blk.set9 HG.out _ _ _ _ _ _ _ _ _,by omega,by omega,by omega⟩
  case rest=>
  clear HR HB cR0 cR1 n0 n1 hlt hN1 hL1 hB1 hbs
  obtain ⟨g,rfl,rfl,rfl,hr,hB,hG,hBg,hRg,hbg⟩:=hcut
  have g0:=hG.cell 0;have g1:=hG.cell 1;have g2:=hG.cell 2;have g3:=hG.cell 3;have g4:=hG.cell 4;have g5:=hG.cell 5;have g6:=hG.cell 6;have g7:=hG.cell 7;have g8:=hG.cell 8
  simp only [List.getElem?_toArray,List.getElem?_cons_zero,List.getElem?_cons_succ] at g0 g1 g2 g3 g4 g5 g6 g7 g8
  by_cases he:er=0
  · subst he
    have cR1:=hr.c.2.1
    have fR1:=hr.blk.frozen 1
    have HR:=Lib.hid (hr.setAt e')
    have HB2:=Lib.hid (hB.other (show B0≠R by omega) 1 (.int .i64 e'))
    have q0:R≠g:=hRg
    clear hr hB hG
    go_wp2_with ((with_reducible refine wpList_store_st (o:=⟨none,.store 91 _ _,_,_,_,_⟩) rfl 91 _ _ rfl B0 rfl rfl (run_storeAt_row _ B0 91 91 woZ (woI k p e' t n m) ?_ ?_ ?_ ?_) ?_);exact HB2.out;exact infoWo;rfl;exact wo_one _ _ _ _ _ _)
    exact bodyPost_ret (v:=.tuple #[.agg (woI k p e' t n m),.int .i64 0,.int .i64 pl]) (results_cell2 Tryz.results47 _ _ B0 91 (woI k p e' t n m) (0,0) _ rfl (Blk.setRow HB2.out) Tryz.underlying91 rfl infoWo) rfl ⟨rfl,HR.out.rowOther hb0 (by omega) hN0 hL0 _⟩
  · have qe:((er:Int)==0)=false:=by rw [beq_eq_false_iff_ne];omega
    have HR:=Lib.hid hr
    have HB2:=Lib.hid hB
    clear hr hB hG
    go_wp2_with ((with_reducible refine wpList_store_st (o:=⟨none,.store 91 _ _,_,_,_,_⟩) rfl 91 _ _ rfl B0 rfl rfl (run_storeAt_row _ B0 91 91 woZ (woI k p e' t n m) ?_ ?_ ?_ ?_) ?_);exact HB2.out;exact infoWo;rfl;exact wo_one _ _ _ _ _ _)
    exact bodyPost_ret (v:=.tuple #[.agg (woI k p e' t n m),.int .i64 er,.int .i64 pl]) (results_cell2 Tryz.results47 _ _ B0 91 (woI k p e' t n m) (0,0) _ rfl (Blk.setRow HB2.out) Tryz.underlying91 rfl infoWo) rfl ⟨rfl,HR.out.rowOther hb0 (by omega) hN0 hL0 _⟩
end Go.Proofs.YtbccojjcdcighaaGreatDoor

namespace Go.Proofs.YtbccojjcdcighaaGreatDoor
open Go.RowKit BS
def readM (s:ByteArray):Nat→Nat→PS→PS×Nat×Nat
 |0,_,_=>(zPS,0,0)
 |k+1,a,x=>
  if s.size≤a then (x,0,0)
  else if firstP x (bt s a)≠0 then (zPS,firstP x (bt s a),a+1)
  else match nextA s a with
   |(w,e,p)=>if e≠0 then (zPS,e,p) else readM s k w.fin (takeP x w)
def finM (s:ByteArray) (r:PS×Nat×Nat):PS×Nat×Nat×Nat:=
 if r.2.1≠0 then (zPS,0,r.2.1,r.2.2) else if 1<r.1.st.length then (zPS,r.1.st.length - 1,2,s.size) else (rowsP r.1,0,0,0)
theorem readP_D (s:ByteArray):∀k a x,readP s k a x=finM s (readM s k a x)
 |0,a,x=>rfl
 |k+1,a,x=>by
  rw [readP,readM]
  by_cases h0:s.size≤a
  ·rw [if_pos h0,if_pos h0]
   unfold finM;rw [if_neg (show¬(0:Nat)≠0 by decide)]
  rw [if_neg h0,if_neg h0]
  by_cases h1:firstP x (bt s a)≠0
  ·rw [if_pos h1,if_pos h1]
   unfold finM;rw [if_pos h1]
  rw [if_neg h1,if_neg h1];generalize nextA s a=X;obtain ⟨w,e,p⟩:=X;simp only
  by_cases h2:e≠0
  ·rw [if_pos h2,if_pos h2]
   unfold finM;rw [if_pos h2]
  ·rw [if_neg h2,if_neg h2]
   exact readP_D s k _ _
theorem readM_end (s:ByteArray) (k:Nat) (x:PS):readM s (k+1) s.size x=(x,0,0):=by
 rw [readM,if_pos (Nat.le_refl _)]
theorem readM_first (s:ByteArray) (k a:Nat) (x:PS) (e:Nat) (ha:a<s.size) (h:firstP x (bt s a)=e) (he:e≠0):readM s (k+1) a x=(zPS,e,a+1):=by
 rw [readM,if_neg (by omega),h,if_pos he]
theorem readM_err (s:ByteArray) (k a:Nat) (x:PS) (w:WN) (e p:Nat) (ha:a<s.size) (h:firstP x (bt s a)=0) (hX:nextA s a=(w,e,p)) (he:e≠0):readM s (k+1) a x=(zPS,e,p):=by
 rw [readM,if_neg (by omega),h,if_neg (by decide),hX];simp only;rw [if_pos he]
theorem readM_step (s:ByteArray) (k a:Nat) (x:PS) (w:WN) (p:Nat) (ha:a<s.size) (h:firstP x (bt s a)=0) (hX:nextA s a=(w,0,p)):readM s (k+1) a x=readM s k w.fin (takeP x w):=by
 rw [readM,if_neg (by omega),h,if_neg (by decide),hX];simp only;rw [if_neg (by decide)]
def tkE (x:PS) (w:WN):Nat:=if w.kind=2∧x.groups=9 then 9 else if w.kind=3∧x.st.length=1 then 8 else 0
theorem first_tk (s:ByteArray) (a:Nat) (x:PS) (n r:Nat) (st:List (Nat×Nat)) (w:WN) (hx:x.st=(n,r)::st) (hX:nextA s a=(w,0,0)) (hc:bt s a=42∨bt s a=43∨bt s a=63∨bt s a=123→n≠0):firstP x (bt s a)=tkE x w:=by
 obtain ⟨k2,k3,k5⟩:=next_kinds s a w hX;have hk40:bt s a=40→w.kind=2:=fun h=>by
  unfold nextA at hX;rw [if_pos h] at hX;have:=(Prod.mk.inj hX).1;rw [←this]
 have hk41:bt s a=41→w.kind=3:=fun h=>by
  unfold nextA at hX;rw [if_neg (by omega),if_pos h] at hX;have:=(Prod.mk.inj hX).1;rw [←this]
 unfold firstP tkE;rw [hx];simp only [List.length_cons]
 by_cases h1:bt s a=42∨bt s a=43∨bt s a=63∨bt s a=123
 ·rw [if_pos h1,if_neg (hc h1),if_neg (fun h=>by have:=k2 h.1;omega),if_neg (fun h=>by have:=k3 h.1;omega)]
 rw [if_neg h1]
 by_cases h2:bt s a=41
 ·have hk:=hk41 h2
  rw [if_pos h2,if_neg (show¬(w.kind=2∧x.groups=9) from fun h=>by omega)]
  by_cases h3:st=[]
  ·rw [if_pos h3,if_pos ⟨hk,by rw [h3];rfl⟩]
  ·rw [if_neg h3,if_neg (fun h=>h3 (List.eq_nil_of_length_eq_zero (by omega)))]
 rw [if_neg h2]
 by_cases h3:bt s a=40
 ·have hk:=hk40 h3
  rw [if_pos h3]
  by_cases h4:x.groups=9
  ·rw [if_pos h4,if_pos ⟨hk,h4⟩]
  ·rw [if_neg h4,if_neg (fun h=>h4 h.2),if_neg (show¬(w.kind=3∧st.length+1=1) from fun h=>by omega)]
 ·rw [if_neg h3,if_neg (fun h=>h3 (k2 h.1)),if_neg (fun h=>h2 (k3 h.1))]
theorem first_err (s:ByteArray) (a:Nat) (x:PS) (n r:Nat) (st:List (Nat×Nat)) (w:WN) (e p:Nat) (hx:x.st=(n,r)::st) (hX:nextA s a=(w,e,p)) (he:e≠0) (hc:bt s a=42∨bt s a=43∨bt s a=63∨bt s a=123→n≠0):firstP x (bt s a)=0:=by
 have h40:bt s a≠40:=fun h=>by
  unfold nextA at hX;rw [if_pos h] at hX;exact he (Prod.mk.inj (Prod.mk.inj hX).2).1.symm
 have h41:bt s a≠41:=fun h=>by
  unfold nextA at hX;rw [if_neg (by omega),if_pos h] at hX;exact he (Prod.mk.inj (Prod.mk.inj hX).2).1.symm
 unfold firstP;rw [hx];simp only
 by_cases h1:bt s a=42∨bt s a=43∨bt s a=63∨bt s a=123
 ·rw [if_pos h1,if_neg (hc h1)]
 ·rw [if_neg h1,if_neg h41,if_neg h40]
def Bnd (a:Nat) (x:PS):Prop:=x.l.length≤3*a∧x.st.length≤a+1∧∀p∈x.st,p.1≤a∧p.2≤a
theorem sPS_bnd:Bnd 0 sPS:=⟨by decide,by decide,fun p hp=>by simp [sPS] at hp;subst hp;exact ⟨Nat.le_refl _,Nat.le_refl _⟩⟩
theorem take_bnd (a b:Nat) (x:PS) (w:WN) (h:Bnd a x) (hb:a<b):Bnd b (takeP x w):=by
 obtain ⟨l,st,g⟩:=x;obtain ⟨h1,h2,h3⟩:=h;simp only at h1 h2 h3;have bump:∀(st:List (Nat×Nat)),(∀p∈st,p.1≤a∧p.2≤a)→∀p∈bumpP st,p.1≤b∧p.2≤b:=by
  intro st h3 p hp;obtain _|⟨⟨n,r⟩,st⟩:=st
  ·cases hp
  ·rcases List.mem_cons.1 hp with rfl|hp
   ·have:=h3 (n,r) (List.mem_cons_self ..);exact ⟨by simp only at this ⊢;omega,by simp only at this ⊢;omega⟩
   ·have:=h3 p (List.mem_cons_of_mem _ hp);exact ⟨by omega,by omega⟩
 have blen:∀(st:List (Nat×Nat)),(bumpP st).length=st.length:=fun st=>by
  obtain _|⟨⟨n,r⟩,st⟩:=st
  ·rfl
  ·rfl
 have more:∀p∈st,p.1≤b∧p.2≤b:=fun p hp=>by have:=h3 p hp;exact ⟨by omega,by omega⟩
 unfold takeP
 by_cases c1:w.kind=1
 ·rw [if_pos c1]
  exact ⟨by simp;omega,by simp only [blen];omega,bump st h3⟩
 rw [if_neg c1]
 by_cases c2:w.kind=2
 ·rw [if_pos c2]
  refine ⟨by simp only;omega,by simp only [List.length_cons];omega,fun p hp=>?_⟩;rcases List.mem_cons.1 hp with rfl|hp
  ·exact ⟨Nat.zero_le _,Nat.zero_le _⟩
  ·exact more p hp
 rw [if_neg c2]
 by_cases c3:w.kind=3
 ·rw [if_pos c3]
  obtain _|⟨⟨n,r⟩,st⟩:=st
  ·exact ⟨by simp [rowsP];omega,by simp [rowsP,bumpP],fun p hp=>by simp [rowsP,bumpP] at hp⟩
  ·have e1:=rowT_len n
   have e2:=rowsT_len (r+1);simp only [List.length_cons] at h2;refine ⟨?_,?_,?_⟩
   ·show (l++rowT n++rowsT (r+1)++[ndG]).length≤_
    rw [List.length_append,List.length_append,List.length_append,List.length_singleton];omega
   ·show (bumpP st).length≤_
    rw [blen];omega
   ·exact bump st (fun p hp=>h3 p (List.mem_cons_of_mem _ hp))
 rw [if_neg c3]
 by_cases c4:w.kind=4
 ·rw [if_pos c4]
  obtain _|⟨⟨n,r⟩,st⟩:=st
  ·exact ⟨by simp only [rowP];omega,by simp [rowP],fun p hp=>by simp [rowP] at hp⟩
  ·have e1:=rowT_len n
   refine ⟨?_,?_,fun p hp=>?_⟩
   ·show (l++rowT n).length≤_
    rw [List.length_append];omega
   ·show st.length+1≤_
    simp only [List.length_cons] at h2;omega
   ·rcases List.mem_cons.1 hp with rfl|hp
    ·have:=(h3 (n,r) (List.mem_cons_self ..)).2;exact ⟨Nat.zero_le _,by simp only at this ⊢;omega⟩
    ·exact more p (List.mem_cons_of_mem _ hp)
 rw [if_neg c4]
 by_cases c5:w.kind=5
 ·rw [if_pos c5]
  exact ⟨by simp;omega,by simp only;omega,more⟩
 ·rw [if_neg c5]
  exact ⟨by simp only;omega,by simp only;omega,more⟩
theorem ptake_calls {base R:Nat} {s:ByteArray} (hs:s.size≤1000000) {a c:Nat} (x:PS) {vN vL:Value} {w0:World} (wd':WN) (hok:OkW wd') (hb:Bnd a x) (hne:x.st≠[]) (ha:a≤s.size) (hg:x.groups≤9) (w:World) (h:RdV base R s c x vN vL w0 w):
 Calls Tryz.prog 48 #[.pointer (some ⟨R,0,none⟩),.agg (woA wd')] w fun e w'=>e=.returned (.int .i64 (tkE x wd'))∧(tkE x wd'=0→∃vN' vL',RdV base R s c (takeP x wd') vN' vL' w0 w')∧(tkE x wd'≠0→Below w.heap.size w w'):=by
 obtain ⟨l,st,gr⟩:=x;obtain _|⟨⟨n,r⟩,st⟩:=st
 ·exact absurd rfl hne
 obtain ⟨b1,b2,b3⟩:=hb;have b4:=b3 (n,r) (List.mem_cons_self ..);simp only [List.length_cons] at b1 b2 b4 hg;obtain ⟨k,p,f,t,n',m'⟩:=wd';have hk:=okW_kind _ hok;simp only at hk;rcases hk with rfl|rfl|rfl|rfl|rfl
 ·have e0:tkE ⟨l,(n,r)::st,gr⟩ ⟨1,p,f,t,n',m'⟩=0:=by unfold tkE;simp
  rw [e0];refine (ptake1 p f t n' m' w h (by omega) (by omega) (by omega)).mono ?_;rintro e w' ⟨rfl,vN',hr⟩;exact ⟨rfl,fun _=>⟨_,_,hr⟩,fun h=>absurd rfl h⟩
 ·by_cases h9:gr=9
  ·subst h9
   have e0:tkE ⟨l,(n,r)::st,9⟩ ⟨2,p,f,t,n',m'⟩=9:=by unfold tkE;simp
   rw [e0];refine (ptake2_9 p f t n' m' w h).mono ?_;rintro e w' ⟨rfl,hbw⟩;exact ⟨rfl,(fun h=>by cases h),fun _=>hbw⟩
  ·have e0:tkE ⟨l,(n,r)::st,gr⟩ ⟨2,p,f,t,n',m'⟩=0:=by unfold tkE;simp [h9]
   rw [e0];refine (ptake2 p f t n' m' w h (by omega) (by omega)).mono ?_;rintro e w' ⟨rfl,vL',hr⟩;exact ⟨rfl,fun _=>⟨_,_,hr⟩,fun h=>absurd rfl h⟩
 ·obtain _|⟨⟨n2,r2⟩,st⟩:=st
  ·have e0:tkE ⟨l,[(n,r)],gr⟩ ⟨3,p,f,t,n',m'⟩=8:=by unfold tkE;simp
   rw [e0];refine (ptake3_8 p f t n' m' w h).mono ?_;rintro e w' ⟨rfl,hbw⟩;exact ⟨rfl,(fun h=>by cases h),fun _=>hbw⟩
  ·have e0:tkE ⟨l,(n,r)::(n2,r2)::st,gr⟩ ⟨3,p,f,t,n',m'⟩=0:=by unfold tkE;simp
   have b5:=b3 (n2,r2) (by simp);simp only [List.length_cons] at b2 b5;rw [e0];refine (ptake3 p f t n' m' w h (by omega) (by omega) (by omega) (by omega) (by omega)).mono ?_;rintro e w' ⟨rfl,vN',vL',hr⟩;exact ⟨rfl,fun _=>⟨_,_,hr⟩,fun h=>absurd rfl h⟩
 ·have e0:tkE ⟨l,(n,r)::st,gr⟩ ⟨4,p,f,t,n',m'⟩=0:=by unfold tkE;simp
  rw [e0];refine (ptake4 p f t n' m' w h (by omega) (by omega) (by omega) (by omega)).mono ?_;rintro e w' ⟨rfl,vN',hr⟩;exact ⟨rfl,fun _=>⟨_,_,hr⟩,fun h=>absurd rfl h⟩
 ·have e0:tkE ⟨l,(n,r)::st,gr⟩ ⟨5,p,f,t,n',m'⟩=0:=by unfold tkE;simp
  rw [e0];refine (ptake5 p f t n' m' w h (by omega)).mono ?_;rintro e w' ⟨rfl,vN',hr⟩;exact ⟨rfl,fun _=>⟨_,_,hr⟩,fun h=>absurd rfl h⟩
end Go.Proofs.YtbccojjcdcighaaGreatDoor

namespace Go.Proofs.YtbccojjcdcighaaGreatDoor
open Go.RowKit BS
theorem rtake_calls {base N:Nat} {A:Nat→Prop} {s:ByteArray} (hs:s.size≤1000000) {a:Nat} (x:PS) {vN vP vR:Value} (wd':WN) (hok:OkW wd') (hb:Bnd a x) (hne:x.st≠[]) (ha:a≤s.size) (hg:x.groups≤9) (ht:tkE x wd'=0) (w:World) (h:SV base N A x.l (pS x.st) (rS x.st) vN vP vR w):
 Calls Tryz.prog 68 #[.agg (stW vN vP vR x.groups),.agg (woA wd')] w fun e w'=>∃vN' vP' vR',e=.returned (.agg (stW vN' vP' vR' (takeP x wd').groups))∧SV base N A (takeP x wd').l (pS (takeP x wd').st) (rS (takeP x wd').st) vN' vP' vR' w'∧KpA A w w':=by
 obtain ⟨l,st,gr⟩:=x;obtain _|⟨⟨n,r⟩,st⟩:=st
 ·exact absurd rfl hne
 obtain ⟨b1,b2,b3⟩:=hb;have b4:=b3 (n,r) (List.mem_cons_self ..);simp only [List.length_cons] at b1 b2 b4 hg;obtain ⟨k,p,f,t,n',m'⟩:=wd';have hk:=okW_kind _ hok;simp only at hk;simp only [pS_cons,rS_cons] at h;rcases hk with rfl|rfl|rfl|rfl|rfl
 ·refine (rtake1 p f t n' m' w h (pS_len st) (rS_len st) (by omega) (by omega) (by omega)).mono ?_
  rintro e w' ⟨vN',vP',vR',he,hr,hk⟩;exact ⟨vN',vP',vR',he,by show SV base N A (l++[⟨2,0,0,0,t⟩]) (pS ((n+1,r)::st)) (rS ((n+1,r)::st)) vN' vP' vR' w';rw [pS_cons,rS_cons];exact hr,hk⟩
 ·have h9:gr<9:=by
   rcases Nat.lt_or_ge gr 9 with h9|h9
   ·exact h9
   ·have:gr=9:=by omega
    subst this;unfold tkE at ht
    simp at ht
  refine (rtake2 p f t n' m' w h (pS_len st) (rS_len st) h9 (by omega)).mono ?_;rintro e w' ⟨vN',vP',vR',he,hr,hk⟩;exact ⟨vN',vP',vR',he,by show SV base N A l (pS ((0,0)::(n,r)::st)) (rS ((0,0)::(n,r)::st)) vN' vP' vR' w';rw [pS_cons,rS_cons,pS_cons,rS_cons];exact hr,hk⟩
 ·obtain _|⟨⟨n2,r2⟩,st⟩:=st
  ·unfold tkE at ht
   simp at ht
  ·have b5:=b3 (n2,r2) (by simp)
   simp only [List.length_cons] at b2 b5;rw [pS_cons,rS_cons] at h;refine (rtake3 p f t n' m' w h (len_snoc (pS_len st)) (len_snoc (rS_len st)) (pS_len st) (rS_len st) rfl (by omega) (by omega) (by omega) (by omega) (by omega)).mono ?_;rintro e w' ⟨vN',vP',vR',he,hr,hk⟩;exact ⟨vN',vP',vR',he,by show SV base N A (l++rowT n++rowsT (r+1)++[ndG]) (pS ((n2+1,r2)::st)) (rS ((n2+1,r2)::st)) vN' vP' vR' w';rw [pS_cons,rS_cons];exact hr,hk⟩
 ·refine (rtake4 p f t n' m' w h (pS_len st) (rS_len st) (by omega) (by omega) (by omega) (by omega)).mono ?_
  rintro e w' ⟨vN',vP',vR',he,hr,hk⟩;exact ⟨vN',vP',vR',he,by show SV base N A (l++rowT n) (pS ((0,r+1)::st)) (rS ((0,r+1)::st)) vN' vP' vR' w';rw [pS_cons,rS_cons];exact hr,hk⟩
 ·refine (rtake5 p f t n' m' w h (pS_len st) (rS_len st) (by omega) (by omega)).mono ?_
  rintro e w' ⟨vN',vP',vR',he,hr,hk⟩;exact ⟨vN',vP',vR',he,by show SV base N A (l++[⟨4,1,n',m',0⟩]) (pS ((n,r)::st)) (rS ((n,r)::st)) vN' vP' vR' w';rw [pS_cons,rS_cons];exact hr,hk⟩
end Go.Proofs.YtbccojjcdcighaaGreatDoor

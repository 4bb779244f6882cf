/- Texts put together: Hm Ur Jh. -/
import Derived.Test.YtbccojjcdcighaaGreatDoorQAn
import Derived.Deep.RegionHeld3
import Derived.Test.YtbccojjcdcighaaGreatDoorQAd
import Derived.Test.YtbccojjcdcighaaGreatDoorQV
import Derived.Test.YtbccojjcdcighaaGreatDoorQD
namespace Go.Proofs.YtbccojjcdcighaaGreatDoor
open Go.RowKit BS
theorem results_cell3_7 {P:Program} {fn:Func} {p a b c:Tmp} {ty:TypeId} (h:fn.results=#[.cell p ty,.tmp a,.tmp b,.tmp c]) (tmps:Array Value) (w:World) (g:Nat) (t:TypeId) (cs:Array Value) (fr:Nat×Nat) (d:TypeDesc)
 (hp:tmps.getD p undef=.pointer (some ⟨g,0,none⟩)) (hg:w.heap[g]? =some (.cells cs t fr))
 (hu:P.underlying ty=some d) (hd:(match d with|.struct _|.array _ _=>true|_=>false)=true) (hi:(P.info? ty).map (·.size)=some cs.size):
 (results fn tmps).run P w=.ok (.tuple #[.agg cs,tmps.getD a undef,tmps.getD b undef,tmps.getD c undef]) w:=by
 have hp':tmps[p]?.getD undef=.pointer (some ⟨g,0,none⟩):=by simpa using hp
 simp [results,h,hp',asAddr,run_loadVar_row w g t ty cs fr d hg hu hd hi]
theorem KpA.toBelow {A:Nat→Prop} {a b:World} {n:Nat} (h:KpA A a b) (hA:∀k,A k→n≤k) (hn:n≤a.heap.size):Below n a b:=
 ⟨h.os,h.tape,h.output,h.size,fun k hk=>h.block k (by omega) fun h'=>by have:=hA k h';omega⟩
def rdS (b:Nat):Nat→Prop:=fun k=>k=b+1∨k=b+1+1∨b+4≤k
structure RS (b:Nat) (x:PS) (vN vP vR:Value) (w0 w:World):Prop where
 sv:SV b (b+4) (rdS b) x.l (pS x.st) (rS x.st) vN vP vR w
 blk:Blk w (b+1+1+1) (stW vN vP vR x.groups) 82
 res:Blk w b stO 82
 bel:Below b w0 w
theorem rdS_ge (b:Nat):∀k,rdS b k→b≤k:=fun k h=>by rcases h with h|h|h<;>omega
theorem RS.below {b:Nat} {x:PS} {vN vP vR:Value} {w0 w w':World} (h:RS b x vN vP vR w0 w) (hb:Below w.heap.size w w'):RS b x vN vP vR w0 w':=
 ⟨h.sv.below hb,h.blk.below hb h.blk.lt,h.res.below hb h.res.lt,h.bel.trans (hb.mono (Nat.le_of_lt h.res.lt))⟩
theorem RS.alloc {b:Nat} {x:PS} {vN vP vR:Value} {w0 w:World} (h:RS b x vN vP vR w0 w) (o:Obj):RS b x vN vP vR w0 (w.alloc o):=h.below ((Below.refl _ _).alloc (Nat.le_refl _) o)
theorem RS.call {b:Nat} {x x':PS} {vN vP vR vN' vP' vR':Value} {w0 w w':World} (h:RS b x vN vP vR w0 w) (hs:SV b (b+4) (rdS b) x'.l (pS x'.st) (rS x'.st) vN' vP' vR' w') (hk:KpA (rdS b) w w'):RS b x' vN' vP' vR' w0 (w'.setRow (b+1+1+1) (stW vN' vP' vR' x'.groups)):=by
 have hn:¬rdS b (b+1+1+1):=fun h=>by rcases h with h|h|h<;>omega
 have hn0:¬rdS b b:=fun h=>by rcases h with h|h|h<;>omega
 exact ⟨hs.row hn _,Blk.setRow (h.blk.kpA hk hn),(row_kept7 _ _ _ _ (by omega)).trans (h.res.kpA hk hn0),below_row (h.bel.trans (hk.toBelow (rdS_ge b) (Nat.le_of_lt h.res.lt))) (by omega) _⟩
theorem rs_new (w:World):RS w.heap.size sPS (.slice none 0 0) (.slice (some ⟨w.heap.size+1,0,none⟩) 1 1) (.slice (some ⟨w.heap.size+1+1,0,none⟩) 1 1) w
 ((((w.alloc (.cells stO 82)).alloc (.cells #[.int .i64 0] 3)).alloc (.cells #[.int .i64 0] 3)).alloc (.cells (stW (.slice none 0 0) (.slice (some ⟨w.heap.size+1,0,none⟩) 1 1) (.slice (some ⟨w.heap.size+1+1,0,none⟩) 1 1) 0) 82)):=by
 have h0:=Blk.new w stO 82;have h1:=Blk.new (w.alloc (.cells stO 82)) #[.int .i64 0] 3;have h2:=Blk.new ((w.alloc (.cells stO 82)).alloc (.cells #[.int .i64 0] 3)) #[.int .i64 0] 3;have h3:=Blk.new (((w.alloc (.cells stO 82)).alloc (.cells #[.int .i64 0] 3)).alloc (.cells #[.int .i64 0] 3)) (stW (.slice none 0 0) (.slice (some ⟨w.heap.size+1,0,none⟩) 1 1) (.slice (some ⟨w.heap.size+1+1,0,none⟩) 1 1) 0) 82;simp only [World.size_alloc] at h1 h2 h3;refine ⟨⟨World.ownsRow_nil _ _ _ _,⟨rfl,.inr ⟨w.heap.size+1,1,_,rfl,by omega,(h1.alloc _).alloc _,Nat.le_refl _,by decide,rfl,rfl⟩⟩,⟨rfl,.inr ⟨w.heap.size+1+1,1,_,rfl,by omega,h2.alloc _,Nat.le_refl _,by decide,rfl,rfl⟩⟩,(fun k e=>by cases e),(fun k e=>by cases e;exact .inl rfl),(fun k e=>by cases e;exact .inr (.inl rfl)),(fun k hk=>.inr (.inr hk)),(by simp),(by omega),.inl rfl,.inl rfl,.inr (by simp [Value.ownBlock])⟩,h3,((h0.alloc _).alloc _).alloc _,by go_grown⟩
theorem SV.allocSkip {base N:Nat} {A:Nat→Prop} {l:List NdN} {ps rs:List Nat} {vN vP vR:Value} {w:World} (h:SV base N A l ps rs vN vP vR w) (o:Obj):SV base (w.heap.size+1) (fun k=>A k∧k≠w.heap.size) l ps rs vN vP vR (w.alloc o):=by
 have h2:=h.alloc o;have hk:∀{v:Value} {e:TypeId} {size n:Nat} {xs:List Value},w.ownsRow base e size v n xs→∀k,v.ownBlock=some k→k≠w.heap.size:=fun ho k e=>by have:=own_lt ho e;omega
 exact ⟨h2.nodes,h2.pieces,h2.rows,fun k e=>⟨h.aN k e,hk h.nodes k e⟩,fun k e=>⟨h.aP k e,hk h.pieces k e⟩,fun k e=>⟨h.aR k e,hk h.rows k e⟩,fun k hk=>⟨h.up k (Nat.le_trans h.sz (by omega)),by omega⟩,by simp,Nat.le_trans h.bs (Nat.le_trans h.sz (by omega)),h.nP,h.nR,h.pR⟩
def ReadR (w:World) (RES:PS×Nat×Nat×Nat) (e:Ending) (w':World):Prop:=
 ∃vN aP nP cP aR nR cR g,e=.returned (.tuple #[.agg (stW vN (.slice aP nP cP) (.slice aR nR cR) g),.int .i64 RES.2.1,.int .i64 RES.2.2.1,.int .i64 RES.2.2.2])∧w'.ownsRow w.heap.size 45 8 vN RES.1.l.length (ndCells RES.1.l)∧Below w.heap.size w w'
theorem readP_end (s:ByteArray) (k:Nat) (x:PS):readP s (k+1) s.size x=if 1<x.st.length then (zPS,x.st.length - 1,2,s.size) else (rowsP x,0,0,0):=by
 rw [readP,if_pos (Nat.le_refl _)]
theorem readP_first (s:ByteArray) (k a:Nat) (x:PS) (ha:a<s.size) (h:firstP x (bt s a)≠0):readP s (k+1) a x=(zPS,0,firstP x (bt s a),a+1):=by
 rw [readP,if_neg (by omega),if_pos h]
theorem readP_err (s:ByteArray) (k a:Nat) (x:PS) (w:WN) (e p:Nat) (ha:a<s.size) (h:firstP x (bt s a)=0) (hX:nextA s a=(w,e,p)) (he:e≠0):readP s (k+1) a x=(zPS,0,e,p):=by
 rw [readP,if_neg (by omega),h,if_neg (by decide),hX];simp only;rw [if_pos he]
theorem readP_step (s:ByteArray) (k a:Nat) (x:PS) (w:WN) (p:Nat) (ha:a<s.size) (h:firstP x (bt s a)=0) (hX:nextA s a=(w,0,p)):readP s (k+1) a x=readP s k w.fin (takeP x w):=by
 rw [readP,if_neg (by omega),h,if_neg (by decide),hX];simp only;rw [if_neg (by decide)]
set_option maxRecDepth 100000 in
set_option maxHeartbeats 32000000 in
theorem rRead7_calls (s:ByteArray) (hs:s.size≤1000000) (w:World):
 Calls Tryz.prog 42 #[.string s] w fun e w'=>ReadR w (parseN s) e w':=by
 have HG:=Lib.hid (rs_new w);have hR:readP s (s.size+1) 0 sPS=parseN s:=rfl;generalize parseN s=RES at*;have HRES:=Lib.hid hR;clear hR;go_enter Tryz.func42,Tryz.ntmps42
 go_upto_region 2 with fail
 have e0:(((w.alloc (.cells #[.slice none 0 0,.slice none 0 0,.slice none 0 0,.int .i64 0] 82)).alloc (.cells #[.int .i64 0] 3)).alloc (.cells #[.int .i64 0] 3)).alloc (.cells #[.slice none 0 0,.slice (some ⟨w.heap.size+1,0,none⟩) 1 1,.slice (some ⟨w.heap.size+1+1,0,none⟩) 1 1,.int .i64 0] 82)=(((w.alloc (.cells stO 82)).alloc (.cells #[.int .i64 0] 3)).alloc (.cells #[.int .i64 0] 3)).alloc (.cells (stW (.slice none 0 0) (.slice (some ⟨w.heap.size+1,0,none⟩) 1 1) (.slice (some ⟨w.heap.size+1+1,0,none⟩) 1 1) 0) 82):=rfl
 try rw [e0]
 clear e0;generalize (((w.alloc (.cells stO 82)).alloc (.cells #[.int .i64 0] 3)).alloc (.cells #[.int .i64 0] 3)).alloc (.cells (stW (.slice none 0 0) (.slice (some ⟨w.heap.size+1,0,none⟩) 1 1) (.slice (some ⟨w.heap.size+1+1,0,none⟩) 1 1) 0) 82)=w1 at*
 go_wp2_with fail
 go_loopw [7] (fun v wr=>∃(k a:Nat) (x:PS) (vN vP vR:Value),a≤s.size∧s.size<k+a∧v=.int .i64 a∧readP s k a x=RES∧PInv x∧Bnd a x∧RS w.heap.size x vN vP vR w wr) (fun v _=>s.size - (intOf v).toNat)
 case atStart=>exact ⟨s.size+1,0,sPS,_,_,_,Nat.zero_le _,by omega,rfl,HRES.out,sPS_inv,sPS_bnd,HG.out⟩
 case round=>
  clear HG HRES;obtain ⟨k,a,x,vN,vP,vR,ha,hk,rfl,hres,hpi,hbd,hr⟩:=hrel;obtain ⟨k,rfl⟩:∃m,k=m+1:=⟨k - 1,by omega⟩;obtain ⟨l,st,gr⟩:=x;obtain _|⟨⟨n,r⟩,st⟩:=st
  ·exact absurd rfl hpi.1
  have hsl:=hbd.2.1;simp only [List.length_cons] at hsl;have HX:=Lib.hid hr;obtain ⟨c0,c1,c2,c3⟩:=(show wr.cell? ⟨w.heap.size+1+1+1,0,none⟩=some vN∧wr.cell? ⟨w.heap.size+1+1+1,1,none⟩=some vP∧wr.cell? ⟨w.heap.size+1+1+1,2,none⟩=some vR∧wr.cell? ⟨w.heap.size+1+1+1,3,none⟩=some (.int .i64 gr) from ⟨hr.blk.cell 0,hr.blk.cell 1,hr.blk.cell 2,hr.blk.cell 3⟩);have hB3:=hr.blk.lt
  by_cases hlt:a<s.size
  ·have hd:decide ((a:Int)<(s.size:Int))=true:=by rw [decide_eq_true_iff];omega
   have hb0:s[a].toNat=bt s a:=(bt_eq s a hlt).symm;have i0:(0:Int)≤(a:Int):=by omega
   have i1:(a:Int)<(s.size:Int):=by omega
   have hF:=fun W (h:SV w.heap.size (w.heap.size+4) (rdS w.heap.size) l (pS ((n,r)::st)) (rS ((n,r)::st)) vN vP vR W)=>rfirst_calls (gr:=gr) (bt s a) W h (by omega)
   clear hr
   by_cases hf0:firstP ⟨l,(n,r)::st,gr⟩ (bt s a)=0
   ·obtain ⟨vX,hvX⟩:∃X,nextA s a=X:=⟨_,rfl⟩
    obtain ⟨⟨xk,xp,xf,xt,xn,xm⟩,er,pl⟩:=vX;have hE:=nextA_end s a hlt;rw [hvX] at hE;have hN:=rNext_calls s hs a;rw [←(next_in s a hlt).1,hvX] at hN;rw [hf0] at hF;have HF:Hid (∀W,SV w.heap.size (w.heap.size+4) (rdS w.heap.size) l (pS ((n,r)::st)) (rS ((n,r)::st)) vN vP vR W→Calls Tryz.prog 66 #[.agg (stW vN vP vR gr),.int .u8 (bt s a)] W fun e w'=>e=.returned (.int .i64 0)∧Below W.heap.size W w'):=Lib.hid hF;rcases hE with ⟨h1,h2,h3,h4,h5,h6⟩|⟨h1,_⟩
    ·simp only at h1 h2 h4 h5 h6
     subst h1;subst h2;subst h4;have hcc:bt s xp=42∨bt s xp=43∨bt s xp=63∨bt s xp=123→n≠0:=fun hc h0=>by
      subst h0;unfold firstP at hf0;simp only at hf0;rw [if_pos hc] at hf0
      simp at hf0
     have hft:=first_tk s xp ⟨l,(n,r)::st,gr⟩ n r st ⟨xk,xp,xf,xt,xn,xm⟩ rfl hvX hcc;have htk:=hft.symm.trans hf0;have hpi2:=take_inv s xp ⟨l,(n,r)::st,gr⟩ ⟨xk,xp,xf,xt,xn,xm⟩ hpi hf0 h3 (next_kinds s xp _ hvX).1 (next_kinds s xp _ hvX).2.1 (next_kinds s xp _ hvX).2.2;have hbd2:=take_bnd xp xf ⟨l,(n,r)::st,gr⟩ ⟨xk,xp,xf,xt,xn,xm⟩ hbd h5;rw [readP_step s k xp _ ⟨xk,xp,xf,xt,xn,xm⟩ 0 hlt hf0 hvX] at hres;have hTK:=fun N A W (h:SV w.heap.size N A l (pS ((n,r)::st)) (rS ((n,r)::st)) vN vP vR W)=>rtake_calls hs ⟨l,(n,r)::st,gr⟩ ⟨xk,xp,xf,xt,xn,xm⟩ h3 hbd (by simp) ha hpi.2.2.2 htk W h
     generalize takeP ⟨l,(n,r)::st,gr⟩ ⟨xk,xp,xf,xt,xn,xm⟩=x2 at*;have HN:Hid (∀w,Calls Tryz.prog 67 #[.string s,.int .i64 xp] w fun en w'=>en=.returned (.tuple #[.agg (woI xk xp xf xt xn xm),.int .i64 0,.int .i64 0])∧Below w.heap.size w w'):=Lib.hid hN;have HTK:Hid (∀N A W,SV w.heap.size N A l (pS ((n,r)::st)) (rS ((n,r)::st)) vN vP vR W→Calls Tryz.prog 68 #[.agg (stW vN vP vR gr),.agg (woI xk xp xf xt xn xm)] W fun e w'=>∃vN' vP' vR',e=.returned (.agg (stW vN' vP' vR' x2.groups))∧SV w.heap.size N A x2.l (pS x2.st) (rS x2.st) vN' vP' vR' w'∧KpA A W w'):=Lib.hid hTK;have HFF:=Lib.hid (show _∧_∧_∧_∧_ from ⟨hres,hpi2,hbd2,h5,h6⟩);clear hres hpi2 hbd2 h5 h6 hN hTK hF hft htk hcc h3 hvX hpi hbd hf0
     go_wp2_with fail
     go_region_held3 (fun w'=>w'.cell? ⟨w.heap.size+1+1+1,0,none⟩=some vN∧w'.cell? ⟨w.heap.size+1+1+1,1,none⟩=some vP∧w'.cell? ⟨w.heap.size+1+1+1,2,none⟩=some vR∧w'.cell? ⟨w.heap.size+1+1+1,3,none⟩=some (.int .i64 gr))
      (first
       |go_keep
       |(go_split_ands;refine ⟨?_,?_,?_,?_⟩<;>(rw [hb.cell (by simp;omega)];assumption)))
      ((go_at_call 66;refine (HF.out _ HX.out.sv.drew).mono ?_;rintro en w2 ⟨rfl,hb⟩))
     have hx:=(HX.out.below ((Below.refl wr.heap.size wr).drew)).below hb;clear HX HF hb;obtain ⟨c0,c1,c2,c3⟩:=(show w2.cell? ⟨w.heap.size+1+1+1,0,none⟩=some vN∧w2.cell? ⟨w.heap.size+1+1+1,1,none⟩=some vP∧w2.cell? ⟨w.heap.size+1+1+1,2,none⟩=some vR∧w2.cell? ⟨w.heap.size+1+1+1,3,none⟩=some (.int .i64 gr) from ⟨hx.blk.cell 0,hx.blk.cell 1,hx.blk.cell 2,hx.blk.cell 3⟩);have HX:=Lib.hid hx;clear hx
     go_wp2_with fail
     refine (HN.out _).mono ?_;rintro en w3 ⟨rfl,hb⟩;have hx:=HX.out.below hb;clear HX HN hb c0 c1 c2 c3
     go_upto_region 8 with fail
     have HW:=Lib.hid (Blk.new w3 (woI xk xp xf xt xn xm) 91);have HX:=Lib.hid (hx.alloc (.cells (woI xk xp xf xt xn xm) 91));have hgW:w.heap.size+4≤w3.heap.size:=hx.sv.sz;have HSK:=Lib.hid (hx.sv.allocSkip (.cells (woI xk xp xf xt xn xm) 91));clear hx;generalize w3.alloc (.cells (woI xk xp xf xt xn xm) 91)=w4 at*;generalize w3.heap.size=gW at*;have g0:=HW.out.cell 0;have g1:=HW.out.cell 1;have g2:=HW.out.cell 2;have g3:=HW.out.cell 3;have g4:=HW.out.cell 4;have g5:=HW.out.cell 5;have g6:=HW.out.cell 6;have g7:=HW.out.cell 7;have g8:=HW.out.cell 8;simp only [List.getElem?_toArray,List.getElem?_cons_zero,List.getElem?_cons_succ] at g0 g1 g2 g3 g4 g5 g6 g7 g8;obtain ⟨c0,c1,c2,c3⟩:=(show w4.cell? ⟨w.heap.size+1+1+1,0,none⟩=some vN∧w4.cell? ⟨w.heap.size+1+1+1,1,none⟩=some vP∧w4.cell? ⟨w.heap.size+1+1+1,2,none⟩=some vR∧w4.cell? ⟨w.heap.size+1+1+1,3,none⟩=some (.int .i64 gr) from ⟨HX.out.blk.cell 0,HX.out.blk.cell 1,HX.out.blk.cell 2,HX.out.blk.cell 3⟩)
     go_wp2_with fail
     refine (HTK.out _ _ _ HSK.out).mono ?_;rintro en w5 ⟨vN',vP',vR',rfl,hs5,hk5⟩;obtain ⟨aN,cN,rfl⟩:=owns_form hs5.nodes;obtain ⟨aP,cP,rfl⟩:=owns_form hs5.pieces;obtain ⟨aR,cR,rfl⟩:=owns_form hs5.rows;have hz5:w.heap.size+4≤w5.heap.size:=Nat.le_trans HX.out.sv.sz hk5.size;have hw5:=HW.out.kpA hk5 (fun h=>h.2 rfl);have hb5:=HX.out.blk.kpA (hk5.mono (A:=rdS w.heap.size) fun _ hk=>hk.1) (fun h=>by rcases h with h|h|h<;>omega);have hx:=HX.out.call (x':=x2) (hs5.mono (by omega) hz5 (fun _ hk _=>hk.1) (fun _ hk=>.inr (.inr hk))) (hk5.mono fun _ hk=>hk.1);have hw6:Blk (w5.setRow (w.heap.size+1+1+1) (stW (.slice aN x2.l.length cN) (.slice aP (pS x2.st).length cP) (.slice aR (rS x2.st).length cR) (x2.groups:Int))) gW (woI xk xp xf xt xn xm) 91:=(row_kept7 _ _ _ _ (by omega)).trans hw5;clear HTK HSK HX HW hs5 hk5 hw5 c0 c1 c2 c3 g0 g1 g2 g3 g4 g5 g6 g7 g8
     go_upto_region 11 with ((with_reducible refine wpList_store_st (o:=⟨none,.store 82 _ _,_,_,_,_⟩) rfl 82 _ _ rfl (w.heap.size+1+1+1) rfl rfl (run_storeAt_row _ (w.heap.size+1+1+1) 82 82 (stW vN vP vR (gr:Int)) (stW (.slice aN x2.l.length cN) (.slice aP (pS x2.st).length cP) (.slice aR (rS x2.st).length cR) (x2.groups:Int)) ?_ ?_ ?_ ?_) ?_);exact hb5;exact infoSt7;rfl;exact st_one7 _ _ _ _ _ _ _ _ _ _)
     clear hb5;generalize w5.setRow (w.heap.size+1+1+1) (stW (.slice aN x2.l.length cN) (.slice aP (pS x2.st).length cP) (.slice aR (rS x2.st).length cR) (x2.groups:Int))=w6 at*;have g2:=hw6.cell 2;simp only [List.getElem?_toArray,List.getElem?_cons_zero,List.getElem?_cons_succ] at g2;have HX:=Lib.hid hx;clear hx hw6
     go_wp2_with fail
     go_roundw
     case rel=>
      obtain ⟨z1,z2,z3,z4,z5⟩:=HFF.out;exact ⟨k,xf,x2,_,_,_,z5,by omega,rfl,z1,z2,z3,HX.out⟩
     case measure=>
      obtain ⟨_,_,_,z4,_⟩:=HFF.out
      simp [intOf];omega
    ·simp only at h1
     rw [readP_err s k a _ _ er pl hlt hf0 hvX h1] at hres;have HN:Hid (∀w,Calls Tryz.prog 67 #[.string s,.int .i64 a] w fun en w'=>en=.returned (.tuple #[.agg (woI xk xp xf xt xn xm),.int .i64 er,.int .i64 pl])∧Below w.heap.size w w'):=Lib.hid hN;have qe:((er:Int) !=0)=true:=by rw [bne_iff_ne];omega
     have HRS:=Lib.hid hres;clear hres hN hF h1 hvX hpi hbd hf0
     go_wp2_with fail
     go_region_held3 (fun w'=>w'.cell? ⟨w.heap.size+1+1+1,0,none⟩=some vN∧w'.cell? ⟨w.heap.size+1+1+1,1,none⟩=some vP∧w'.cell? ⟨w.heap.size+1+1+1,2,none⟩=some vR∧w'.cell? ⟨w.heap.size+1+1+1,3,none⟩=some (.int .i64 gr))
      (first
       |go_keep
       |(go_split_ands;refine ⟨?_,?_,?_,?_⟩<;>(rw [hb.cell (by simp;omega)];assumption)))
      ((go_at_call 66;refine (HF.out _ HX.out.sv.drew).mono ?_;rintro en w2 ⟨rfl,hb⟩))
     have hx:=(HX.out.below ((Below.refl wr.heap.size wr).drew)).below hb;clear HX HF hb;obtain ⟨c0,c1,c2,c3⟩:=(show w2.cell? ⟨w.heap.size+1+1+1,0,none⟩=some vN∧w2.cell? ⟨w.heap.size+1+1+1,1,none⟩=some vP∧w2.cell? ⟨w.heap.size+1+1+1,2,none⟩=some vR∧w2.cell? ⟨w.heap.size+1+1+1,3,none⟩=some (.int .i64 gr) from ⟨hx.blk.cell 0,hx.blk.cell 1,hx.blk.cell 2,hx.blk.cell 3⟩);have HX:=Lib.hid hx;clear hx
     go_wp2_with fail
     refine (HN.out _).mono ?_;rintro en w3 ⟨rfl,hb⟩;have hx:=HX.out.below hb;clear HX HN hb c0 c1 c2 c3
     go_upto_region 8 with fail
     have HX:=Lib.hid (hx.alloc (.cells (woI xk xp xf xt xn xm) 91));clear hx;generalize w3.alloc (.cells (woI xk xp xf xt xn xm) 91)=w4 at*
     go_wp2_with ((with_reducible refine wpList_store_st (o:=⟨none,.store 82 _ _,_,_,_,_⟩) rfl 82 _ _ rfl w.heap.size rfl rfl (run_storeAt_row _ w.heap.size 82 82 stO stO ?_ ?_ ?_ ?_) ?_);exact HX.out.res;exact infoSt7;rfl;exact st_one7 none none none 0 0 0 0 0 0 0)
     exact bodyPost_ret (v:=.tuple #[.agg stO,.int .i64 0,.int .i64 er,.int .i64 pl]) (results_cell3_7 Tryz.results42 _ _ w.heap.size 82 stO (0,0) _ rfl (Blk.setRow HX.out.res) Tryz.underlying82 rfl infoSt7) rfl (by rw [←HRS.out];exact ⟨.slice none 0 0,none,0,0,none,0,0,0,rfl,World.ownsRow_nil _ _ _ _,below_row HX.out.bel (Nat.le_refl _) _⟩)
   ·rw [readP_first s k a _ hlt hf0] at hres
    generalize firstP ⟨l,(n,r)::st,gr⟩ (bt s a)=FE at*;have HF:=Lib.hid hF;have qe:((FE:Int) !=0)=true:=by rw [bne_iff_ne];omega
    have HRS:=Lib.hid hres;clear hres hF hpi hbd
    go_wp2_with fail
    go_region_held3 (fun w'=>w'.cell? ⟨w.heap.size+1+1+1,0,none⟩=some vN∧w'.cell? ⟨w.heap.size+1+1+1,1,none⟩=some vP∧w'.cell? ⟨w.heap.size+1+1+1,2,none⟩=some vR∧w'.cell? ⟨w.heap.size+1+1+1,3,none⟩=some (.int .i64 gr))
     (first
      |go_keep
      |(go_split_ands;refine ⟨?_,?_,?_,?_⟩<;>(rw [hb.cell (by simp;omega)];assumption)))
     ((go_at_call 66;refine (HF.out _ HX.out.sv.drew).mono ?_;rintro en w2 ⟨rfl,hb⟩))
    have hx:=(HX.out.below ((Below.refl wr.heap.size wr).drew)).below hb;clear HX HF hb;obtain ⟨c0,c1,c2,c3⟩:=(show w2.cell? ⟨w.heap.size+1+1+1,0,none⟩=some vN∧w2.cell? ⟨w.heap.size+1+1+1,1,none⟩=some vP∧w2.cell? ⟨w.heap.size+1+1+1,2,none⟩=some vR∧w2.cell? ⟨w.heap.size+1+1+1,3,none⟩=some (.int .i64 gr) from ⟨hx.blk.cell 0,hx.blk.cell 1,hx.blk.cell 2,hx.blk.cell 3⟩);have HX:=Lib.hid hx;clear hx
    go_wp2_with ((with_reducible refine wpList_store_st (o:=⟨none,.store 82 _ _,_,_,_,_⟩) rfl 82 _ _ rfl w.heap.size rfl rfl (run_storeAt_row _ w.heap.size 82 82 stO stO ?_ ?_ ?_ ?_) ?_);exact HX.out.res;exact infoSt7;rfl;exact st_one7 none none none 0 0 0 0 0 0 0)
    exact bodyPost_ret (v:=.tuple #[.agg stO,.int .i64 0,.int .i64 FE,.int .i64 ((a:Int)+1)]) (results_cell3_7 Tryz.results42 _ _ w.heap.size 82 stO (0,0) _ rfl (Blk.setRow HX.out.res) Tryz.underlying82 rfl infoSt7) rfl (by rw [←HRS.out];exact ⟨.slice none 0 0,none,0,0,none,0,0,0,rfl,World.ownsRow_nil _ _ _ _,below_row HX.out.bel (Nat.le_refl _) _⟩)
  ·obtain rfl:a=s.size:=by omega
   have hs1:SV w.heap.size (w.heap.size+4) (rdS w.heap.size) l (pS ((n,r)::st)) (rS ((n,r)::st)) vN vP vR wr:=hr.sv;rw [pS_cons,rS_cons] at hs1;obtain ⟨gP,cP,rfl,_⟩:=hs1.topPK (pS_len st);have b1:=hbd.1;have b4:=hbd.2.2 (n,r) (List.mem_cons_self ..);simp only at b1 b4;rw [readP_end] at hres
   by_cases h0:st=[]
   ·subst h0
    rw [if_neg (show¬1<([(n,r)]:List (Nat×Nat)).length by simp)] at hres;have HRS:Hid ((⟨l++rowT n++rowsT (r+1),[],gr⟩,0,0,0)=RES):=Lib.hid hres;have HRW:=Lib.hid (rrows_calls (gr:=gr) (K:=0) (ps:=[]) (rs:=[]) wr hs1 rfl rfl (by omega) (by omega) (by omega) (by omega));generalize l++rowT n++rowsT (r+1)=l2 at*;clear hres hpi hbd hs1 hr b1 b4
    go_wp2_with fail
    refine HRW.out.mono ?_;rintro en w5 ⟨vN',vP',vR',rfl,hs5,hk5⟩;obtain ⟨aN,cN,rfl⟩:=owns_form hs5.nodes;obtain ⟨aP,cP',rfl⟩:∃a c,vP'=.slice a 0 c:=owns_form hs5.pieces;obtain ⟨aR,cR,rfl⟩:∃a c,vR'=.slice a 0 c:=owns_form hs5.rows;have hb5:=HX.out.res.kpA hk5 (fun h=>by rcases h with h|h|h<;>omega);have hbel:=HX.out.bel.trans (hk5.toBelow (rdS_ge w.heap.size) (Nat.le_of_lt HX.out.res.lt));have hn5:=owns_keep hs5.nodes (fun k e=>row_kept7 w5 w.heap.size (stW (.slice aN l2.length cN) (.slice aP 0 cP') (.slice aR 0 cR) (gr:Int)) k (by rcases hs5.aN k e with h|h|h<;>omega));clear HRW HX hs5 hk5 c0 c1 c2 c3
    go_wp2_with ((with_reducible refine wpList_store_st (o:=⟨none,.store 82 _ _,_,_,_,_⟩) rfl 82 _ _ rfl w.heap.size rfl rfl (run_storeAt_row _ w.heap.size 82 82 stO (stW (.slice aN l2.length cN) (.slice aP 0 cP') (.slice aR 0 cR) (gr:Int)) ?_ ?_ ?_ ?_) ?_);exact hb5;exact infoSt7;rfl;exact st_one7 _ _ _ _ _ _ _ _ _ _)
    exact bodyPost_ret (v:=.tuple #[.agg (stW (.slice aN l2.length cN) (.slice aP 0 cP') (.slice aR 0 cR) (gr:Int)),.int .i64 0,.int .i64 0,.int .i64 0]) (results_cell3_7 Tryz.results42 _ _ w.heap.size 82 (stW (.slice aN l2.length cN) (.slice aP 0 cP') (.slice aR 0 cR) (gr:Int)) (0,0) _ rfl (Blk.setRow hb5) Tryz.underlying82 rfl infoSt7) rfl (by rw [←HRS.out];exact ⟨_,_,_,_,_,_,_,_,rfl,hn5,below_row hbel (Nat.le_refl _) _⟩)
   ·have hl0:0<st.length:=List.length_pos_iff.2 h0
    rw [if_pos (show 1<((n,r)::st).length by rw [List.length_cons];omega)] at hres;have HRS:Hid ((zPS,st.length,2,s.size)=RES):=Lib.hid hres;have ql:decide ((0:Int)<(st.length:Int))=true:=by rw [decide_eq_true_iff];omega
    clear hres hpi hbd hs1 hr b1 b4
    go_wp2_with ((with_reducible refine wpList_store_st (o:=⟨none,.store 82 _ _,_,_,_,_⟩) rfl 82 _ _ rfl w.heap.size rfl rfl (run_storeAt_row _ w.heap.size 82 82 stO stO ?_ ?_ ?_ ?_) ?_);exact HX.out.res;exact infoSt7;rfl;exact st_one7 none none none 0 0 0 0 0 0 0)
    exact bodyPost_ret (v:=.tuple #[.agg stO,.int .i64 st.length,.int .i64 2,.int .i64 s.size]) (results_cell3_7 Tryz.results42 _ _ w.heap.size 82 stO (0,0) _ rfl (Blk.setRow HX.out.res) Tryz.underlying82 rfl infoSt7) rfl (by rw [←HRS.out];exact ⟨.slice none 0 0,none,0,0,none,0,0,0,rfl,World.ownsRow_nil _ _ _ _,below_row HX.out.bel (Nat.le_refl _) _⟩)
end Go.Proofs.YtbccojjcdcighaaGreatDoor

namespace Go.Proofs.YtbccojjcdcighaaGreatDoor
open Go.RowKit BS
theorem StepsL.callK {P:Program} {S S':World→Prop} {o:Oper} {v:Value} {a:Act} {f:FuncId} {args:Array Value} {d:Option Tmp} (hd:o.dst=d) (h:∀w,S w→(execOp a.eval o).run P w=.ok (.enter f args) w)
 (hc:∀w,S w→Calls P f args w fun e w'=>e=.returned v∧S' w'):∀w,S w→∀(K:Act→World→Prop) (Q:Exit→Act→World→Prop),(∀w',S' w'→K (a.put d v) w')→o.wp P a w K Q:=
 fun w hS K Q hK=>by
  subst hd;unfold Oper.wp;rw [h w hS];refine Calls.mono (hc w hS) fun e w' he=>?_
  obtain ⟨rfl,hS'⟩:=he;exact hK w' hS'
def SPN (B b pb nb:Nat) (pc nc:Array Value) (w:World) (out:List Nat) (W:World):Prop:=(Blk W pb pc 75∧Blk W nb nc 45)∧QW B b out w W
theorem SPN.step {B b pb nb:Nat} {pc nc:Array Value} {w:World} {o o2:List Nat} {W W':World} (h:SPN B b pb nb pc nc w o W) (hp:pb≠b) (hn:nb≠b) (k:QW B b o2 W W'):SPN B b pb nb pc nc w o2 W':=
 ⟨⟨h.1.1.others k.2.2 hp (by decide),h.1.2.others k.2.2 hn (by decide)⟩,h.2.trans k⟩
theorem SPN.drew {B b pb nb:Nat} {pc nc:Array Value} {w:World} {o:List Nat} {W:World} (h:SPN B b pb nb pc nc w o W):SPN B b pb nb pc nc w o W.drew:=
 ⟨h.1,h.2.1.below ((Below.refl _ _).drew),h.2.2.1.drew,h.2.2.2.drew⟩
set_option maxRecDepth 100000 in
set_option maxHeartbeats 16000000 in
theorem pnode_calls (l:List NdN) (hl:l.length≤1000000) (hf:FormedN l) (hnf:∀x∈l,nodeF x=true) (a:Option Addr) (cap g2:Nat) (vs:Array Value) (c2 b:Nat) (w0:World):∀(i:Nat),i<l.length→NSpec l a cap g2 vs c2 b w0 i:=by
 intro i
 induction i using Nat.strongRecOn with
 |_ i ih=>
 intro hi out w h hlen;obtain ⟨K,hK,hlt,hKl,htx⟩:=kidsR_at l hf i hi;have hih:∀x∈K,NSpec l a cap g2 vs c2 b w0 x:=fun x hx=>ih x (hlt x hx) (by have:=hlt x hx;omega)
 have hKC:=pkids_calls l hl hf a cap g2 vs c2 b w0 i hi l[i].kind K hK hih;rw [txtN_K] at htx;have hki:=accK_empty l hf hnf i hi K hK;have hne:l≠[]:=by rintro rfl;simp at hi
 have hmem:=h.blt;obtain ⟨g,off,rfl,hg,hc⟩:=h.at hne;have hcell:=hc i hi;generalize hac:accK l l[i].kind K K.length=ac at*;rw [htx] at hlen ⊢;clear htx hac hih ih hK hlt hKl hc hf hnf;generalize l[i]=x at*;obtain ⟨k,kc,kn,km,t⟩:=x;simp only at hKC hlen hki ⊢;generalize hY:(if k=2 then textW t else if k=3 then [40]++ac++[41] else if k=4 then ac++textN kn km else ac)=Y at*;have HY:=Lib.hid hY;clear hY;have d0:=hcell 0 (by decide);have d1:=hcell 1 (by decide);have d2:=hcell 2 (by decide);have d3:=hcell 3 (by decide);have d4:=hcell 4 (by decide);have d5:=hcell 5 (by decide);have d6:=hcell 6 (by decide);have d7:=hcell 7 (by decide);simp only [ndA,List.getElem?_toArray,List.getElem?_cons_zero,List.getElem?_cons_succ,Nat.add_zero] at d0 d1 d2 d3 d4 d5 d6 d7;have hii:(i:Int)<(l.length:Int):=by omega
 have hd:decide (i<l.length)=true:=by rw [decide_eq_true_iff];omega
 have HPW:=Lib.hid h;have HKC:=Lib.hid hKC;clear h hKC hcell hne;generalize l.length=len at*;go_enter Tryz.func35,Tryz.ntmps35;have hP:=Blk.new w (prC (some ⟨g,off,none⟩) len cap (some ⟨g2,0,none⟩) len c2 b) 75;have hB1:Below w.heap.size w (w.alloc (.cells (prC (some ⟨g,off,none⟩) len cap (some ⟨g2,0,none⟩) len c2 b) 75)):=(Below.refl _ _).alloc (Nat.le_refl _) _
 go_upto_region 1 with fail
 generalize w.alloc (.cells (prC (some ⟨g,off,none⟩) len cap (some ⟨g2,0,none⟩) len c2 b) 75)=w1 at*;have hW1:=QW.quiet HPW.out.bu HPW.out.le hB1;have e0:=(hB1.cell (p:=⟨g,off+i*8,none⟩) hg).trans d0;have e1:=(hB1.cell (p:=⟨g,off+i*8+1,none⟩) hg).trans d1;have e2:=(hB1.cell (p:=⟨g,off+i*8+2,none⟩) hg).trans d2;have e3:=(hB1.cell (p:=⟨g,off+i*8+3,none⟩) hg).trans d3;have e4:=(hB1.cell (p:=⟨g,off+i*8+4,none⟩) hg).trans d4;have e5:=(hB1.cell (p:=⟨g,off+i*8+5,none⟩) hg).trans d5;have e6:=(hB1.cell (p:=⟨g,off+i*8+6,none⟩) hg).trans d6;have e7:=(hB1.cell (p:=⟨g,off+i*8+7,none⟩) hg).trans d7;have p0:=hP.cell 0;have p1:=hP.cell 1;have p2:=hP.cell 2;simp only [List.getElem?_toArray,List.getElem?_cons_zero,List.getElem?_cons_succ] at p0 p1 p2;have hN:=Blk.new w1 (ndI k kc kn km t) 45;have hP2:=hP.alloc (.cells (ndI k kc kn km t) 45);have hW2:=hW1.trans (QW.quiet hW1.1 (Nat.le_trans HPW.out.le hB1.size) ((Below.refl w1.heap.size w1).alloc (Nat.le_refl _) (.cells (ndI k kc kn km t) 45)));have hnb:w.heap.size<w1.heap.size:=hP.lt;have HP2:=Lib.hid hP2;have HN:=Lib.hid hN;have HW2:=Lib.hid hW2;clear d0 d1 d2 d3 d4 d5 d6 d7 hP hB1 hW1 hP2 hN hW2
 go_upto_region 2 with fail
 clear e0 e1 e2 e3 e4 e5 e6 e7 p0 p1 p2;generalize w1.alloc (.cells (ndI k kc kn km t) 45)=w2 at*;generalize w1.heap.size=nb at*;have hSPN:SPN w0.heap.size b w.heap.size nb (prC (some ⟨g,off,none⟩) len cap (some ⟨g2,0,none⟩) len c2 b) (ndI k kc kn km t) w out w2:=⟨⟨HP2.out,HN.out⟩,HW2.out⟩;have hpb:w.heap.size≠b:=by omega
 have hnb2:nb≠b:=by omega
 have HPW2:=Lib.hid (HPW.out.step HW2.out);have n0:=HN.out.cell 0;have n1:=HN.out.cell 1;simp only [List.getElem?_toArray,List.getElem?_cons_zero,List.getElem?_cons_succ] at n0 n1;have HSPN:=Lib.hid hSPN;clear hSPN hnb HP2 HN HW2
 by_cases h2:k=2
 ·subst h2
  have hY:=HY.out;rw [if_pos rfl] at hY;rw [←hY] at hlen;replace HY:=Lib.hid hY;clear hY;have htx:∀W,SPN w0.heap.size b w.heap.size nb (prC (some ⟨g,off,none⟩) len cap (some ⟨g2,0,none⟩) len c2 b) (ndI 2 kc kn km t) w out W→Calls Tryz.prog 57 #[setV t] W fun e w'=>e=.returned (.string (ofT (textW t)))∧SPN w0.heap.size b w.heap.size nb (prC (some ⟨g,off,none⟩) len cap (some ⟨g2,0,none⟩) len c2 b) (ndI 2 kc kn km t) w out w':=fun W hS=>by
   have hPW:=HPW.out.step hS.2;refine (text5_dev t W hPW.tabs.1 hPW.tabs.2).mono ?_;rintro e w' ⟨rfl,hb⟩;exact ⟨rfl,hS.step hpb hnb2 (.quiet hPW.bu hPW.le hb)⟩
  have hpu:∀W,SPN w0.heap.size b w.heap.size nb (prC (some ⟨g,off,none⟩) len cap (some ⟨g2,0,none⟩) len c2 b) (ndI 2 kc kn km t) w out W→Calls Tryz.prog 34 #[.pointer (some ⟨b,0,none⟩),.string (ofT (textW t))] W fun e w'=>e=.returned (.tuple #[.int .i64 (textW t).length,.nilIface])∧SPN w0.heap.size b w.heap.size nb (prC (some ⟨g,off,none⟩) len cap (some ⟨g2,0,none⟩) len c2 b) (ndI 2 kc kn km t) w (out++textW t) w':=fun W hS=>by
   have hPW:=HPW.out.step hS.2;refine (hPW.put (textW t) hlen).mono ?_;rintro e w' ⟨rfl,hq⟩;exact ⟨rfl,hS.step hpb hnb2 hq⟩
  have HTX:=Lib.hid htx;have HPU:=Lib.hid hpu;have h0:SPN w0.heap.size b w.heap.size nb (prC (some ⟨g,off,none⟩) len cap (some ⟨g2,0,none⟩) len c2 b) (ndI 2 kc kn km t) w out w2.drew:=HSPN.out.drew;clear htx hpu hlen HPW2 HPW HKC
  go_upto_region 4 with fail
  clear n0 n1 HSPN;refine region_stepsL (m:=5) (S0:=SPN w0.heap.size b w.heap.size nb (prC (some ⟨g,off,none⟩) len cap (some ⟨g2,0,none⟩) len c2 b) (ndI 2 kc kn km t) w out) (S1:=SPN w0.heap.size b w.heap.size nb (prC (some ⟨g,off,none⟩) len cap (some ⟨g2,0,none⟩) len c2 b) (ndI 2 kc kn km t) w (out++textW t)) (by kernel_rfl) (by kernel_rfl) h0 ?_;clear h0;simp only [List.size_toArray,List.length_cons,List.length_nil,Nat.reduceAdd,Array.replicate_succ,Array.replicate_zero,List.push_toArray,List.nil_append,List.cons_append];refine AnyL.both (m:=5) (i:=0) (d:=some 14) (v:=.pointer (some ⟨w.heap.size,2,none⟩)) rfl rfl (by kernel_rfl) (by kernel_rfl) (by kernel_rfl) (by kernel_rfl) (StepsIf.yield (by kernel_rfl) (fun w' hS=>by clear hS;go_simp)) (StepsIf.yield (by kernel_rfl) (fun w' hS=>by clear hS;go_simp)) ?_;intro a' ha';simp only [Act.put,List.setIfInBounds_toArray,List.set_cons_zero,List.set_cons_succ] at ha';subst ha';refine AnyL.next (m:=5) (i:=1) (d:=some 15) (v:=.func (.func 34) #[.pointer (some ⟨b,0,none⟩)] #[]) rfl rfl (by kernel_rfl) (by kernel_rfl) (by kernel_rfl) (by kernel_rfl) (StepsIf.yield (by kernel_rfl) (fun w' hS=>by have p2:=hS.1.1.cell 2;simp only [List.getElem?_toArray,List.getElem?_cons_zero,List.getElem?_cons_succ] at p2;clear hS;go_simp)) ?_;intro a' ha';simp only [Act.put,List.setIfInBounds_toArray,List.set_cons_zero,List.set_cons_succ] at ha';subst ha';refine AnyL.both (m:=5) (i:=2) (d:=some 16) (v:=.pointer (some ⟨nb,4,none⟩)) rfl rfl (by kernel_rfl) (by kernel_rfl) (by kernel_rfl) (by kernel_rfl) (StepsIf.yield (by kernel_rfl) (fun w' hS=>by clear hS;go_simp)) (StepsIf.yield (by kernel_rfl) (fun w' hS=>by clear hS;go_simp)) ?_;intro a' ha';simp only [Act.put,List.setIfInBounds_toArray,List.set_cons_zero,List.set_cons_succ] at ha';subst ha';refine AnyL.both (m:=5) (i:=3) (d:=some 17) (v:=setV t) rfl rfl (by kernel_rfl) (by kernel_rfl) (by kernel_rfl) (by kernel_rfl) (StepsIf.yield (by kernel_rfl) (fun w' hS=>by have n4:=hS.1.2.cell 4;have n5:=hS.1.2.cell 5;have n6:=hS.1.2.cell 6;have n7:=hS.1.2.cell 7;simp only [List.getElem?_toArray,List.getElem?_cons_zero,List.getElem?_cons_succ] at n4 n5 n6 n7;clear hS;go_simp)) (StepsIf.yield (by kernel_rfl) (fun w' hS=>by have n4:=hS.1.2.cell 4;have n5:=hS.1.2.cell 5;have n6:=hS.1.2.cell 6;have n7:=hS.1.2.cell 7;simp only [List.getElem?_toArray,List.getElem?_cons_zero,List.getElem?_cons_succ] at n4 n5 n6 n7;clear hS;go_simp)) ?_;intro a' ha';simp only [Act.put,List.setIfInBounds_toArray,List.set_cons_zero,List.set_cons_succ] at ha';subst ha';refine AnyL.next (m:=5) (i:=4) (d:=some 18) (v:=.string (ofT (textW t))) rfl rfl (by kernel_rfl) (by kernel_rfl) (by kernel_rfl) (by kernel_rfl) (StepsIf.call (by kernel_rfl) (fun w' hS=>by clear hS;go_simp) (fun w' hS=>HTX.out w' hS)) ?_;intro a' ha';simp only [Act.put,List.setIfInBounds_toArray,List.set_cons_zero,List.set_cons_succ] at ha';subst ha';refine AnyL.store (m:=5) (d:=some 19) (v:=.tuple #[.int .i64 (textW t).length,.nilIface]) rfl rfl (by kernel_rfl) (by kernel_rfl) (by kernel_rfl) ?hy ?_
  case hy=>exact StepsL.callK rfl (fun w' hS=>by clear hS;go_simp) (fun w' hS=>HPU.out w' hS)
  intro a' ha';simp only [Act.put,List.setIfInBounds_toArray,List.set_cons_zero,List.set_cons_succ] at ha';subst ha';refine AnyL.done (by kernel_rfl) (by kernel_rfl) (fun w' hS=>?_) _;have HQ:=Lib.hid hS.2;clear hS HTX HPU
  go_wp2_with fail
  go_end0;exact ⟨rfl,by rw [←HY.out];exact HQ.out⟩
 have q2:(k==2)=false:=by rw [beq_eq_false_iff_ne];exact h2
 have hY:=HY.out;rw [if_neg h2] at hY;have HKI:=Lib.hid hki;clear hki
 by_cases h3:k=3
 ·subst h3
  rw [if_pos rfl] at hY;subst hY;have hl3:([40]++ac++[41]).length=ac.length+2:=by simp<;>omega
  rw [hl3] at hlen;have hpu:Calls Tryz.prog 34 #[.pointer (some ⟨b,0,none⟩),.string ⟨#[40]⟩] w2 fun e w'=>e=.returned (.tuple #[.int .i64 ([40]:List Nat).length,.nilIface])∧QW w0.heap.size b (out++[40]) w2 w':=HPW2.out.put [40] (by simp;omega)
  have HPU:=Lib.hid hpu;have p2:=HSPN.out.1.1.cell 2;simp only [List.getElem?_toArray,List.getElem?_cons_zero,List.getElem?_cons_succ] at p2;clear hpu HY h2
  go_wp2_with fail
  refine HPU.out.mono ?_;rintro e w3 ⟨rfl,hq⟩;replace HPW2:=Lib.hid (HPW2.out.step hq);replace HSPN:=Lib.hid (HSPN.out.step hpb hnb2 hq);clear HPU hq p2 n0 n1;have hkc:Calls Tryz.prog 58 #[.agg (prC (some ⟨g,off,none⟩) len cap (some ⟨g2,0,none⟩) len c2 b),.int .i64 i,.string ⟨#[]⟩] w3 fun e w'=>e=.returned (.tuple #[])∧QW w0.heap.size b (out++[40]++ac) w3 w':=HKC.out (out++[40]) w3 HPW2.out (by simp;omega)
  have HK:=Lib.hid hkc;have p0:=HSPN.out.1.1.cell 0;have p1:=HSPN.out.1.1.cell 1;have p2:=HSPN.out.1.1.cell 2;simp only [List.getElem?_toArray,List.getElem?_cons_zero,List.getElem?_cons_succ] at p0 p1 p2;clear hkc HKC
  go_wp2_with fail
  refine HK.out.mono ?_;rintro e w4 ⟨rfl,hq⟩;replace HPW2:=Lib.hid (HPW2.out.step hq);replace HSPN:=Lib.hid (HSPN.out.step hpb hnb2 hq);clear HK hq p0 p1 p2;have hpu:Calls Tryz.prog 34 #[.pointer (some ⟨b,0,none⟩),.string ⟨#[41]⟩] w4 fun e w'=>e=.returned (.tuple #[.int .i64 ([41]:List Nat).length,.nilIface])∧QW w0.heap.size b (out++[40]++ac++[41]) w4 w':=HPW2.out.put [41] (by simp;omega)
  have HPU:=Lib.hid hpu;have p2:=HSPN.out.1.1.cell 2;simp only [List.getElem?_toArray,List.getElem?_cons_zero,List.getElem?_cons_succ] at p2;clear hpu
  go_wp2_with fail
  refine HPU.out.mono ?_;rintro e w5 ⟨rfl,hq⟩;replace HSPN:=Lib.hid (HSPN.out.step hpb hnb2 hq);clear HPU hq p2
  go_wp2_with fail
  go_end0;have hz:=HSPN.out.2;rw [List.append_assoc,List.append_assoc,←List.append_assoc [40]] at hz;exact ⟨rfl,hz⟩
 have q3:(k==3)=false:=by rw [beq_eq_false_iff_ne];exact h3
 rw [if_neg h3] at hY
 by_cases h4:k=4
 ·subst h4
  rw [if_pos rfl] at hY;subst hY;rw [List.length_append] at hlen;have hkc:Calls Tryz.prog 58 #[.agg (prC (some ⟨g,off,none⟩) len cap (some ⟨g2,0,none⟩) len c2 b),.int .i64 i,.string ⟨#[]⟩] w2 fun e w'=>e=.returned (.tuple #[])∧QW w0.heap.size b (out++ac) w2 w':=HKC.out out w2 HPW2.out (by omega)
  have HK:=Lib.hid hkc;have p0:=HSPN.out.1.1.cell 0;have p1:=HSPN.out.1.1.cell 1;have p2:=HSPN.out.1.1.cell 2;simp only [List.getElem?_toArray,List.getElem?_cons_zero,List.getElem?_cons_succ] at p0 p1 p2;clear hkc HKC HY h2 h3
  go_wp2_with fail
  refine HK.out.mono ?_;rintro e w3 ⟨rfl,hq⟩;replace HSPN:=Lib.hid (HSPN.out.step hpb hnb2 hq);clear HK hq p0 p1 p2 n0 n1 HPW2;have htx:∀W,SPN w0.heap.size b w.heap.size nb (prC (some ⟨g,off,none⟩) len cap (some ⟨g2,0,none⟩) len c2 b) (ndI 4 kc kn km t) w (out++ac) W→Calls Tryz.prog 59 #[.int .i64 kn,.int .i64 km] W fun e w'=>e=.returned (.string (ofT (textN kn km)))∧SPN w0.heap.size b w.heap.size nb (prC (some ⟨g,off,none⟩) len cap (some ⟨g2,0,none⟩) len c2 b) (ndI 4 kc kn km t) w (out++ac) w':=fun W hS=>by
   have hPW:=HPW.out.step hS.2;refine (bText_calls kn km W).mono ?_;rintro e w' ⟨rfl,hb⟩;exact ⟨rfl,hS.step hpb hnb2 (.quiet hPW.bu hPW.le hb)⟩
  have hpu:∀W,SPN w0.heap.size b w.heap.size nb (prC (some ⟨g,off,none⟩) len cap (some ⟨g2,0,none⟩) len c2 b) (ndI 4 kc kn km t) w (out++ac) W→Calls Tryz.prog 34 #[.pointer (some ⟨b,0,none⟩),.string (ofT (textN kn km))] W fun e w'=>e=.returned (.tuple #[.int .i64 (textN kn km).length,.nilIface])∧SPN w0.heap.size b w.heap.size nb (prC (some ⟨g,off,none⟩) len cap (some ⟨g2,0,none⟩) len c2 b) (ndI 4 kc kn km t) w (out++ac++textN kn km) w':=fun W hS=>by
   have hPW:=HPW.out.step hS.2;refine (hPW.put (textN kn km) (by rw [List.length_append];omega)).mono ?_;rintro e w' ⟨rfl,hq⟩;exact ⟨rfl,hS.step hpb hnb2 hq⟩
  have HTX:=Lib.hid htx;have HPU:=Lib.hid hpu;have h0:SPN w0.heap.size b w.heap.size nb (prC (some ⟨g,off,none⟩) len cap (some ⟨g2,0,none⟩) len c2 b) (ndI 4 kc kn km t) w (out++ac) w3.drew:=HSPN.out.drew;clear htx hpu HPW hlen
  go_upto_region 11 with fail
  clear HSPN;refine region_stepsL (m:=7) (S0:=SPN w0.heap.size b w.heap.size nb (prC (some ⟨g,off,none⟩) len cap (some ⟨g2,0,none⟩) len c2 b) (ndI 4 kc kn km t) w (out++ac)) (S1:=SPN w0.heap.size b w.heap.size nb (prC (some ⟨g,off,none⟩) len cap (some ⟨g2,0,none⟩) len c2 b) (ndI 4 kc kn km t) w (out++ac++textN kn km)) (by kernel_rfl) (by kernel_rfl) h0 ?_;clear h0;simp only [List.size_toArray,List.length_cons,List.length_nil,Nat.reduceAdd,Array.replicate_succ,Array.replicate_zero,List.push_toArray,List.nil_append,List.cons_append];refine AnyL.both (m:=7) (i:=0) (d:=some 36) (v:=.pointer (some ⟨w.heap.size,2,none⟩)) rfl rfl (by kernel_rfl) (by kernel_rfl) (by kernel_rfl) (by kernel_rfl) (StepsIf.yield (by kernel_rfl) (fun w' hS=>by clear hS;go_simp)) (StepsIf.yield (by kernel_rfl) (fun w' hS=>by clear hS;go_simp)) ?_;intro a' ha';simp only [Act.put,List.setIfInBounds_toArray,List.set_cons_zero,List.set_cons_succ] at ha';subst ha';refine AnyL.next (m:=7) (i:=1) (d:=some 37) (v:=.func (.func 34) #[.pointer (some ⟨b,0,none⟩)] #[]) rfl rfl (by kernel_rfl) (by kernel_rfl) (by kernel_rfl) (by kernel_rfl) (StepsIf.yield (by kernel_rfl) (fun w' hS=>by have p2:=hS.1.1.cell 2;simp only [List.getElem?_toArray,List.getElem?_cons_zero,List.getElem?_cons_succ] at p2;clear hS;go_simp)) ?_;intro a' ha';simp only [Act.put,List.setIfInBounds_toArray,List.set_cons_zero,List.set_cons_succ] at ha';subst ha';refine AnyL.both (m:=7) (i:=2) (d:=some 38) (v:=.pointer (some ⟨nb,2,none⟩)) rfl rfl (by kernel_rfl) (by kernel_rfl) (by kernel_rfl) (by kernel_rfl) (StepsIf.yield (by kernel_rfl) (fun w' hS=>by clear hS;go_simp)) (StepsIf.yield (by kernel_rfl) (fun w' hS=>by clear hS;go_simp)) ?_;intro a' ha';simp only [Act.put,List.setIfInBounds_toArray,List.set_cons_zero,List.set_cons_succ] at ha';subst ha';refine AnyL.both (m:=7) (i:=3) (d:=some 39) (v:=.int .i64 kn) rfl rfl (by kernel_rfl) (by kernel_rfl) (by kernel_rfl) (by kernel_rfl) (StepsIf.yield (by kernel_rfl) (fun w' hS=>by have n2:=hS.1.2.cell 2;simp only [List.getElem?_toArray,List.getElem?_cons_zero,List.getElem?_cons_succ] at n2;clear hS;go_simp)) (StepsIf.yield (by kernel_rfl) (fun w' hS=>by have n2:=hS.1.2.cell 2;simp only [List.getElem?_toArray,List.getElem?_cons_zero,List.getElem?_cons_succ] at n2;clear hS;go_simp)) ?_;intro a' ha';simp only [Act.put,List.setIfInBounds_toArray,List.set_cons_zero,List.set_cons_succ] at ha';subst ha';refine AnyL.both (m:=7) (i:=4) (d:=some 40) (v:=.pointer (some ⟨nb,3,none⟩)) rfl rfl (by kernel_rfl) (by kernel_rfl) (by kernel_rfl) (by kernel_rfl) (StepsIf.yield (by kernel_rfl) (fun w' hS=>by clear hS;go_simp)) (StepsIf.yield (by kernel_rfl) (fun w' hS=>by clear hS;go_simp)) ?_;intro a' ha';simp only [Act.put,List.setIfInBounds_toArray,List.set_cons_zero,List.set_cons_succ] at ha';subst ha';refine AnyL.both (m:=7) (i:=5) (d:=some 41) (v:=.int .i64 km) rfl rfl (by kernel_rfl) (by kernel_rfl) (by kernel_rfl) (by kernel_rfl) (StepsIf.yield (by kernel_rfl) (fun w' hS=>by have n3:=hS.1.2.cell 3;simp only [List.getElem?_toArray,List.getElem?_cons_zero,List.getElem?_cons_succ] at n3;clear hS;go_simp)) (StepsIf.yield (by kernel_rfl) (fun w' hS=>by have n3:=hS.1.2.cell 3;simp only [List.getElem?_toArray,List.getElem?_cons_zero,List.getElem?_cons_succ] at n3;clear hS;go_simp)) ?_;intro a' ha';simp only [Act.put,List.setIfInBounds_toArray,List.set_cons_zero,List.set_cons_succ] at ha';subst ha';refine AnyL.next (m:=7) (i:=6) (d:=some 42) (v:=.string (ofT (textN kn km))) rfl rfl (by kernel_rfl) (by kernel_rfl) (by kernel_rfl) (by kernel_rfl) (StepsIf.call (by kernel_rfl) (fun w' hS=>by clear hS;go_simp) (fun w' hS=>HTX.out w' hS)) ?_;intro a' ha';simp only [Act.put,List.setIfInBounds_toArray,List.set_cons_zero,List.set_cons_succ] at ha';subst ha';refine AnyL.store (m:=7) (d:=some 43) (v:=.tuple #[.int .i64 (textN kn km).length,.nilIface]) rfl rfl (by kernel_rfl) (by kernel_rfl) (by kernel_rfl) ?hy ?_
  case hy=>exact StepsL.callK rfl (fun w' hS=>by clear hS;go_simp) (fun w' hS=>HPU.out w' hS)
  intro a' ha';simp only [Act.put,List.setIfInBounds_toArray,List.set_cons_zero,List.set_cons_succ] at ha';subst ha';refine AnyL.done (by kernel_rfl) (by kernel_rfl) (fun w' hS=>?_) _;have HQ:=Lib.hid hS.2;clear hS HTX HPU
  go_wp2_with fail
  go_end0;exact ⟨rfl,by rw [←List.append_assoc];exact HQ.out⟩
 have q4:(k==4)=false:=by rw [beq_eq_false_iff_ne];exact h4
 rw [if_neg h4] at hY;subst hY
 by_cases h5:k=5
 ·subst h5
  have hkc:Calls Tryz.prog 58 #[.agg (prC (some ⟨g,off,none⟩) len cap (some ⟨g2,0,none⟩) len c2 b),.int .i64 i,.string ⟨#[]⟩] w2 fun e w'=>e=.returned (.tuple #[])∧QW w0.heap.size b (out++ac) w2 w':=HKC.out out w2 HPW2.out hlen
  have HK:=Lib.hid hkc;have p0:=HSPN.out.1.1.cell 0;have p1:=HSPN.out.1.1.cell 1;have p2:=HSPN.out.1.1.cell 2;simp only [List.getElem?_toArray,List.getElem?_cons_zero,List.getElem?_cons_succ] at p0 p1 p2;clear hkc HKC HY h2 h3 h4
  go_wp2_with fail
  refine HK.out.mono ?_;rintro e w3 ⟨rfl,hq⟩;replace HSPN:=Lib.hid (HSPN.out.step hpb hnb2 hq);clear HK hq p0 p1 p2 n0 n1 HPW2
  go_wp2_with fail
  go_end0;exact ⟨rfl,HSPN.out.2⟩
 have q5:(k==5)=false:=by rw [beq_eq_false_iff_ne];exact h5
 by_cases h6:k=6
 ·subst h6
  have hkc:Calls Tryz.prog 58 #[.agg (prC (some ⟨g,off,none⟩) len cap (some ⟨g2,0,none⟩) len c2 b),.int .i64 i,.string ⟨#[124]⟩] w2 fun e w'=>e=.returned (.tuple #[])∧QW w0.heap.size b (out++ac) w2 w':=HKC.out out w2 HPW2.out hlen
  have HK:=Lib.hid hkc;have p0:=HSPN.out.1.1.cell 0;have p1:=HSPN.out.1.1.cell 1;have p2:=HSPN.out.1.1.cell 2;simp only [List.getElem?_toArray,List.getElem?_cons_zero,List.getElem?_cons_succ] at p0 p1 p2;clear hkc HKC HY h2 h3 h4 h5
  go_wp2_with fail
  refine HK.out.mono ?_;rintro e w3 ⟨rfl,hq⟩;replace HSPN:=Lib.hid (HSPN.out.step hpb hnb2 hq);clear HK hq p0 p1 p2 n0 n1 HPW2
  go_wp2_with fail
  go_end0;exact ⟨rfl,HSPN.out.2⟩
 have q6:(k==6)=false:=by rw [beq_eq_false_iff_ne];exact h6
 obtain ⟨h1,rfl⟩:k=1∧ac=[]:=by
  have:=HKI.out;rcases this with ⟨h,h'⟩|h|h|h|h|h
  ·exact ⟨h,h'⟩
  ·exact absurd h h2
  ·exact absurd h h3
  ·exact absurd h h4
  ·exact absurd h h5
  ·exact absurd h h6
 clear HKC HKI HY h1 h2 h3 h4 h5 h6 HPW2
 go_wp2_with fail
 go_end0;exact ⟨rfl,by rw [List.append_nil];exact HSPN.out.2⟩
end Go.Proofs.YtbccojjcdcighaaGreatDoor

namespace Go.Proofs.YtbccojjcdcighaaGreatDoor
open Go.RowKit BS
theorem start_rd (s:ByteArray) (w:World):RdV w.heap.size (w.heap.size+1) s 0 sPS (.slice none 0 0) (.slice (some ⟨w.heap.size,0,none⟩) 1 1) w ((w.alloc (.cells #[.int .i64 0,.int .i64 0] 86)).alloc (.cells (preA s 0 (.slice none 0 0) (.slice (some ⟨w.heap.size,0,none⟩) 1 1) 0) 63)):=by
 have h1:=Blk.new w #[.int .i64 0,.int .i64 0] 86;have h2:=Blk.new (w.alloc (.cells #[.int .i64 0,.int .i64 0] 86)) (preA s 0 (.slice none 0 0) (.slice (some ⟨w.heap.size,0,none⟩) 1 1) 0) 63;rw [World.size_alloc] at h2;refine ⟨h2,World.ownsRow_nil _ _ _ _,⟨rfl,.inr ⟨w.heap.size,1,_,rfl,Nat.le_refl _,h1.alloc _,Nat.le_refl _,by decide,rfl,rfl⟩⟩,by simp [Value.ownBlock],by simp [Value.ownBlock],.inl rfl,by omega,by go_grown⟩
def ReadQ (s:ByteArray) (w:World) (RES:PS×Nat×Nat) (e:Ending) (w':World):Prop:=
 (RES.2.1≠0∧e=.returned (.tuple #[.pointer none,.int .i64 RES.2.1,.int .i64 RES.2.2])∧Below w.heap.size w w')∨
 (RES.2.1=0∧∃R a vN vL,e=.returned (.tuple #[.pointer (some ⟨R,0,none⟩),.int .i64 0,.int .i64 0])∧RdV w.heap.size R s a RES.1 vN vL w w'∧Bnd s.size RES.1∧RES.1.st≠[])
set_option maxRecDepth 100000 in
set_option maxHeartbeats 32000000 in
theorem pread_calls (s:ByteArray) (hs:s.size≤1000000) (w:World):
 Calls Tryz.prog 27 #[.string s] w fun e w'=>ReadQ s w (readM s (s.size+1) 0 sPS) e w':=by
 have HG:=Lib.hid (start_rd s w);have hR:readM s (s.size+1) 0 sPS=readM s (s.size+1) 0 sPS:=rfl;generalize hRES:readM s (s.size+1) 0 sPS=RES at*;have HRES:=Lib.hid hRES;clear hRES hR;go_enter Tryz.func27,Tryz.ntmps27
 go_upto_region 2 with fail
 have e0:(w.alloc (.cells #[.int .i64 0,.int .i64 0] 86)).alloc (.cells #[.string s,.int .i64 0,.slice none 0 0,.slice (some ⟨w.heap.size,0,none⟩) 1 1,.int .i64 0] 63)=(w.alloc (.cells #[.int .i64 0,.int .i64 0] 86)).alloc (.cells (preA s 0 (.slice none 0 0) (.slice (some ⟨w.heap.size,0,none⟩) 1 1) 0) 63):=rfl
 try rw [e0]
 clear e0;generalize (w.alloc (.cells #[.int .i64 0,.int .i64 0] 86)).alloc (.cells (preA s 0 (.slice none 0 0) (.slice (some ⟨w.heap.size,0,none⟩) 1 1) 0) 63)=w1 at*
 go_loopw [9] (fun _ wr=>∃(k a:Nat) (x:PS) (vN vL:Value),a≤s.size∧s.size<k+a∧readM s k a x=RES∧PInv x∧Bnd a x∧RdV w.heap.size (w.heap.size+1) s a x vN vL w wr) (fun _ wr=>s.size - (intOf ((wr.cell? ⟨w.heap.size+1,1,none⟩).getD undef)).toNat)
 case atStart=>exact ⟨s.size+1,0,sPS,_,_,Nat.zero_le _,by omega,HRES.out,sPS_inv,sPS_bnd,HG.out⟩
 case round=>
  clear HG HRES;obtain ⟨k,a,x,vN,vL,ha,hk,hres,hpi,hbd,hr⟩:=hrel;obtain ⟨k,rfl⟩:∃m,k=m+1:=⟨k - 1,by omega⟩;have c1:=hr.c.2.1;have HC1:=Lib.hid c1
  by_cases hlt:a<s.size
  ·obtain ⟨l,st,gr⟩:=x
   obtain _|⟨⟨n,r⟩,st⟩:=st
   ·exact absurd rfl hpi.1
   have hsl:=hbd.2.1;simp only [List.length_cons] at hsl;obtain ⟨gL,capL,rfl,_⟩:=hr.top rfl;have c3:wr.cell? ⟨w.heap.size+1,3,none⟩=some (.slice (some ⟨gL,0,none⟩) (st.length+1:Nat) capL):=hr.c.2.2.2.1;have HLV:=Lib.hid (fun W (h3:W.cell? ⟨w.heap.size+1,3,none⟩=some (.slice (some ⟨gL,0,none⟩) (st.length+1:Nat) capL))=>plevel_calls (w.heap.size+1) gL st.length capL W h3 (by omega));have HR:=Lib.hid hr;have HB:=Lib.hid hr.bel;clear hr hsl;have hb0:s[a].toNat=bt s a:=(bt_eq s a hlt).symm;have hi:=ib_eq [42,43,63,123] (by decide) (bt s a) (bt_lt s a);have HI:Hid (∀w,Calls Tryz.prog 45 #[.string ⟨#[42,43,63,123]⟩,.int .u8 (bt s a)] w fun e w'=>e=.returned (.int .i64 (Lib.indexByte (ofT [42,43,63,123]).data.toList ((bt s a:Int)).toNat.toUInt8))∧w=w'):=Lib.hid (ib_calls (ofT [42,43,63,123]) (bt s a));generalize Lib.indexByte (ofT [42,43,63,123]).data.toList ((bt s a:Int)).toNat.toUInt8=ix at*
   by_cases hc:bt s a=42∨bt s a=43∨bt s a=63∨bt s a=123
   ·have hix:decide (0≤ix)=true:=by rw [hi];rcases hc with h|h|h|h<;>rw [h]<;>rfl
    clear hi
    by_cases hn:n=0
    ·subst hn
     rw [readM_first s k a _ 7 hlt (by unfold firstP;simp only;rw [if_pos hc];simp) (by decide)] at hres;subst hres;clear hpi hbd hc
     go_wp2_with (go_at_call 45;refine (HI.out _).mono ?_;rintro e w' ⟨rfl,rfl⟩)
     refine (HLV.out _ c3).mono ?_;rintro e w1 ⟨rfl,hb1⟩;have hr1:=HR.out.below hb1;have c1':=hr1.c.2.1;clear HR c1 c3 hb1 HB HLV;obtain ⟨_,_,ee,_,_,_,_,t0,t1,f0,f1,_⟩:=hr1.top rfl
     cases ee
     have HB:=Lib.hid hr1.bel;clear hr1
     go_wp2_with fail
     go_quiet (fail)
     go_wp2_with fail
     exact bodyPost_ret (v:=.tuple #[.pointer none,.int .i64 7,.int .i64 ((a:Int)+1)]) (by simp [results,Tryz.results27,go_sem]<;>rfl) rfl (.inl ⟨(show (7:Nat)≠0 by decide),rfl,below_drN HB.out _⟩)
    ·have qn:((n:Int)==0)=false:=by rw [beq_eq_false_iff_ne];omega
     obtain ⟨vX,hvX⟩:∃X,nextA s a=X:=⟨_,rfl⟩;obtain ⟨⟨xk,xp,xf,xt,xn,xm⟩,er,pl⟩:=vX;have hE:=nextA_end s a hlt;have hcc:bt s a=42∨bt s a=43∨bt s a=63∨bt s a=123→n≠0:=fun _=>hn
     rw [hvX] at hE;rcases hE with ⟨h1,h2,h3,h4,h5,h6⟩|⟨h1,_⟩
     ·simp only at h1 h2 h4 h5 h6
      subst h1;subst h2;subst h4;have hNX:=fun W (h:RdV w.heap.size (w.heap.size+1) s xp ⟨l,(n,r)::st,gr⟩ vN (.slice (some ⟨gL,0,none⟩) (st.length+1:Nat) capL) w W)=>pnext_calls hs xk xp xf xt xn xm 0 0 (by rw [←(next_in s xp hlt).1];exact hvX) W h
      simp only [if_true] at hNX;have hft:=first_tk s xp ⟨l,(n,r)::st,gr⟩ n r st ⟨xk,xp,xf,xt,xn,xm⟩ rfl hvX hcc;have hTK:=fun W (h:RdV w.heap.size (w.heap.size+1) s xf ⟨l,(n,r)::st,gr⟩ vN (.slice (some ⟨gL,0,none⟩) (st.length+1:Nat) capL) w W)=>ptake_calls hs ⟨l,(n,r)::st,gr⟩ ⟨xk,xp,xf,xt,xn,xm⟩ h3 hbd (by simp) ha hpi.2.2.2 W h
      have hbd2:=take_bnd xp xf ⟨l,(n,r)::st,gr⟩ ⟨xk,xp,xf,xt,xn,xm⟩ hbd h5
      by_cases htk:tkE ⟨l,(n,r)::st,gr⟩ ⟨xk,xp,xf,xt,xn,xm⟩=0
      ·rw [htk] at hft
       have hpi2:=take_inv s xp ⟨l,(n,r)::st,gr⟩ ⟨xk,xp,xf,xt,xn,xm⟩ hpi hft h3 (next_kinds s xp _ hvX).1 (next_kinds s xp _ hvX).2.1 (next_kinds s xp _ hvX).2.2;rw [readM_step s k xp _ ⟨xk,xp,xf,xt,xn,xm⟩ 0 hlt hft hvX] at hres;rw [htk] at hTK;have HNX:Hid (∀W,RdV w.heap.size (w.heap.size+1) s xp ⟨l,(n,r)::st,gr⟩ vN (.slice (some ⟨gL,0,none⟩) (st.length+1:Nat) capL) w W→Calls Tryz.prog 47 #[.pointer (some ⟨w.heap.size+1,0,none⟩)] W fun e w'=>e=.returned (.tuple #[.agg (woI xk xp xf xt xn xm),.int .i64 0,.int .i64 0])∧RdV w.heap.size (w.heap.size+1) s xf ⟨l,(n,r)::st,gr⟩ vN (.slice (some ⟨gL,0,none⟩) (st.length+1:Nat) capL) w w'):=Lib.hid hNX;have HTK:Hid (∀W,RdV w.heap.size (w.heap.size+1) s xf ⟨l,(n,r)::st,gr⟩ vN (.slice (some ⟨gL,0,none⟩) (st.length+1:Nat) capL) w W→Calls Tryz.prog 48 #[.pointer (some ⟨w.heap.size+1,0,none⟩),.agg (woI xk xp xf xt xn xm)] W fun e w'=>e=.returned (.int .i64 0)∧(0=0→∃vN' vL',RdV w.heap.size (w.heap.size+1) s xf (takeP ⟨l,(n,r)::st,gr⟩ ⟨xk,xp,xf,xt,xn,xm⟩) vN' vL' w w')∧((0:Nat)≠0→Below W.heap.size W w')):=Lib.hid hTK;have HF:=Lib.hid (show _∧_∧_∧_∧_ from ⟨hres,hpi2,hbd2,h5,h6⟩);clear hres hpi2 hbd2 h5 h6 hNX hTK hft htk h3 hvX hcc hpi hbd
       go_wp2_with (go_at_call 45;refine (HI.out _).mono ?_;rintro e w' ⟨rfl,rfl⟩)
       refine (HLV.out _ c3).mono ?_;rintro e w1 ⟨rfl,hb1⟩;have hr1:=HR.out.below hb1;clear HR c1 c3 hb1 HB HLV;obtain ⟨_,_,ee,_,_,_,_,t0,t1,f0,f1,_⟩:=hr1.top rfl
       cases ee
       have HR:=Lib.hid hr1;have HB:=Lib.hid hr1.bel;clear hr1
       go_wp2_with fail
       refine (HNX.out _ HR.out).mono ?_;rintro e w2 ⟨rfl,hr2⟩;clear HNX HR HB
       go_upto_region 6 with fail
       have HW:=Lib.hid (Blk.new w2 (woI xk xp xf xt xn xm) 91);have HR:=Lib.hid (hr2.alloc (.cells (woI xk xp xf xt xn xm) 91));clear hr2;generalize w2.alloc (.cells (woI xk xp xf xt xn xm) 91)=w3 at*;generalize w2.heap.size=gW at*;have g0:=HW.out.cell 0;have g1:=HW.out.cell 1;have g2:=HW.out.cell 2;have g3:=HW.out.cell 3;have g4:=HW.out.cell 4;have g5:=HW.out.cell 5;have g6:=HW.out.cell 6;have g7:=HW.out.cell 7;have g8:=HW.out.cell 8;simp only [List.getElem?_toArray,List.getElem?_cons_zero,List.getElem?_cons_succ] at g0 g1 g2 g3 g4 g5 g6 g7 g8
       go_wp2_with fail
       refine (HTK.out _ HR.out).mono ?_;rintro e w4 ⟨rfl,hr4,_⟩;obtain ⟨vN2,vL2,hr4⟩:=hr4 trivial;clear HTK HR HW g0 g1 g2 g3 g4 g5 g6 g7 g8;have HR:=Lib.hid hr4;have cA:=hr4.c.2.1;clear hr4
       go_wp2_with fail
       go_roundw
       case rel=>
        obtain ⟨q1,q2,q3,q4,q5⟩:=HF.out;exact ⟨k,xf,_,vN2,vL2,q5,by omega,q1,q2,q3,HR.out⟩
       case measure=>
        obtain ⟨_,_,_,q4,_⟩:=HF.out;rw [cA,HC1.out]
        simp [intOf];omega
      ·have hfn:firstP ⟨l,(n,r)::st,gr⟩ (bt s xp)≠0:=by rw [hft];exact htk
       rw [readM_first s k xp _ _ hlt hft htk] at hres;have qe:((tkE ⟨l,(n,r)::st,gr⟩ ⟨xk,xp,xf,xt,xn,xm⟩:Int) !=0)=true:=by rw [bne_iff_ne];omega
       have HNE:=Lib.hid htk;generalize tkE ⟨l,(n,r)::st,gr⟩ ⟨xk,xp,xf,xt,xn,xm⟩=TE at*;have HNX:Hid (∀W,RdV w.heap.size (w.heap.size+1) s xp ⟨l,(n,r)::st,gr⟩ vN (.slice (some ⟨gL,0,none⟩) (st.length+1:Nat) capL) w W→Calls Tryz.prog 47 #[.pointer (some ⟨w.heap.size+1,0,none⟩)] W fun e w'=>e=.returned (.tuple #[.agg (woI xk xp xf xt xn xm),.int .i64 0,.int .i64 0])∧RdV w.heap.size (w.heap.size+1) s xf ⟨l,(n,r)::st,gr⟩ vN (.slice (some ⟨gL,0,none⟩) (st.length+1:Nat) capL) w w'):=Lib.hid hNX;have HTK:Hid (∀W,RdV w.heap.size (w.heap.size+1) s xf ⟨l,(n,r)::st,gr⟩ vN (.slice (some ⟨gL,0,none⟩) (st.length+1:Nat) capL) w W→Calls Tryz.prog 48 #[.pointer (some ⟨w.heap.size+1,0,none⟩),.agg (woI xk xp xf xt xn xm)] W fun e w'=>e=.returned (.int .i64 TE)∧(TE=0→∃vN' vL',RdV w.heap.size (w.heap.size+1) s xf (takeP ⟨l,(n,r)::st,gr⟩ ⟨xk,xp,xf,xt,xn,xm⟩) vN' vL' w w')∧(TE≠0→Below W.heap.size W w')):=Lib.hid hTK;have HRS:=Lib.hid hres;clear hres hbd2 h5 h6 hNX hTK hft htk h3 hvX hcc hpi hbd hfn
       go_wp2_with (go_at_call 45;refine (HI.out _).mono ?_;rintro e w' ⟨rfl,rfl⟩)
       refine (HLV.out _ c3).mono ?_;rintro e w1 ⟨rfl,hb1⟩;have hr1:=HR.out.below hb1;clear HR c1 c3 hb1 HB HLV;obtain ⟨_,_,ee,_,_,_,_,t0,t1,f0,f1,_⟩:=hr1.top rfl
       cases ee
       have HR:=Lib.hid hr1;have HB:=Lib.hid hr1.bel;clear hr1
       go_wp2_with fail
       refine (HNX.out _ HR.out).mono ?_;rintro e w2 ⟨rfl,hr2⟩;clear HNX HR HB
       go_upto_region 6 with fail
       have HW:=Lib.hid (Blk.new w2 (woI xk xp xf xt xn xm) 91);have HR:=Lib.hid (hr2.alloc (.cells (woI xk xp xf xt xn xm) 91));clear hr2;generalize w2.alloc (.cells (woI xk xp xf xt xn xm) 91)=w3 at*;generalize w2.heap.size=gW at*;have g0:=HW.out.cell 0;have g1:=HW.out.cell 1;have g2:=HW.out.cell 2;have g3:=HW.out.cell 3;have g4:=HW.out.cell 4;have g5:=HW.out.cell 5;have g6:=HW.out.cell 6;have g7:=HW.out.cell 7;have g8:=HW.out.cell 8;simp only [List.getElem?_toArray,List.getElem?_cons_zero,List.getElem?_cons_succ] at g0 g1 g2 g3 g4 g5 g6 g7 g8
       go_wp2_with fail
       refine (HTK.out _ HR.out).mono ?_;rintro e w4 ⟨rfl,_,hb4⟩;replace hb4:=hb4 HNE.out;have hw4:=HW.out.below hb4 HW.out.lt;have HB4:=Lib.hid ((HR.out.below hb4).bel);clear HTK HR HW g0 g1 g2 g3 g4 g5 g6 g7 g8 hb4;have g1:=hw4.cell 1;simp only [List.getElem?_toArray,List.getElem?_cons_zero,List.getElem?_cons_succ] at g1;clear hw4
       go_wp2_with fail
       go_quiet (fail)
       go_wp2_with fail
       rw [←HRS.out];exact bodyPost_ret (v:=.tuple #[.pointer none,.int .i64 TE,.int .i64 ((xp:Int)+1)]) (by simp [results,Tryz.results27,go_sem]<;>rfl) rfl (.inl ⟨HNE.out,rfl,below_drN HB4.out _⟩)
     ·simp only at h1
      have hft:=first_err s a ⟨l,(n,r)::st,gr⟩ n r st _ er pl rfl hvX h1 hcc;rw [readM_err s k a _ _ er pl hlt hft hvX h1] at hres;have hNX:=fun W (h:RdV w.heap.size (w.heap.size+1) s a ⟨l,(n,r)::st,gr⟩ vN (.slice (some ⟨gL,0,none⟩) (st.length+1:Nat) capL) w W)=>pnext_calls hs xk xp xf xt xn xm er pl (by rw [←(next_in s a hlt).1];exact hvX) W h
      simp only [if_neg h1] at hNX;have HNX:Hid (∀W,RdV w.heap.size (w.heap.size+1) s a ⟨l,(n,r)::st,gr⟩ vN (.slice (some ⟨gL,0,none⟩) (st.length+1:Nat) capL) w W→Calls Tryz.prog 47 #[.pointer (some ⟨w.heap.size+1,0,none⟩)] W fun e w'=>e=.returned (.tuple #[.agg (woI xk xp xf xt xn xm),.int .i64 er,.int .i64 pl])∧RdV w.heap.size (w.heap.size+1) s a ⟨l,(n,r)::st,gr⟩ vN (.slice (some ⟨gL,0,none⟩) (st.length+1:Nat) capL) w w'):=Lib.hid hNX;have qe:((er:Int) !=0)=true:=by rw [bne_iff_ne];omega
      have HNE:=Lib.hid h1;have HRS:=Lib.hid hres;clear hres hNX hft h1 hvX hcc hpi hbd
      go_wp2_with (go_at_call 45;refine (HI.out _).mono ?_;rintro e w' ⟨rfl,rfl⟩)
      refine (HLV.out _ c3).mono ?_;rintro e w1 ⟨rfl,hb1⟩;have hr1:=HR.out.below hb1;clear HR c1 c3 hb1 HB HLV;obtain ⟨_,_,ee,_,_,_,_,t0,t1,f0,f1,_⟩:=hr1.top rfl
      cases ee
      have HR:=Lib.hid hr1;have HB:=Lib.hid hr1.bel;clear hr1
      go_wp2_with fail
      refine (HNX.out _ HR.out).mono ?_;rintro e w2 ⟨rfl,hr2⟩;clear HNX HR HB;have HB2:=Lib.hid hr2.bel;have hsz:=hr2.size;clear hr2
      go_wp2_with fail
      rw [←HRS.out];exact bodyPost_ret (v:=.tuple #[.pointer none,.int .i64 er,.int .i64 pl]) (by simp [results,Tryz.results27,go_sem]<;>rfl) rfl (.inl ⟨HNE.out,rfl,HB2.out.alloc hsz _⟩)
   ·have hix:decide (0≤ix)=false:=by
     rw [hi,Bool.eq_false_iff];intro h
     simp at h
     omega
    clear hi;obtain ⟨vX,hvX⟩:∃X,nextA s a=X:=⟨_,rfl⟩;obtain ⟨⟨xk,xp,xf,xt,xn,xm⟩,er,pl⟩:=vX;have hE:=nextA_end s a hlt;have hcc:bt s a=42∨bt s a=43∨bt s a=63∨bt s a=123→n≠0:=fun h=>absurd h hc
    rw [hvX] at hE;rcases hE with ⟨h1,h2,h3,h4,h5,h6⟩|⟨h1,_⟩
    ·simp only at h1 h2 h4 h5 h6
     subst h1;subst h2;subst h4;have hNX:=fun W (h:RdV w.heap.size (w.heap.size+1) s xp ⟨l,(n,r)::st,gr⟩ vN (.slice (some ⟨gL,0,none⟩) (st.length+1:Nat) capL) w W)=>pnext_calls hs xk xp xf xt xn xm 0 0 (by rw [←(next_in s xp hlt).1];exact hvX) W h
     simp only [if_true] at hNX;have hft:=first_tk s xp ⟨l,(n,r)::st,gr⟩ n r st ⟨xk,xp,xf,xt,xn,xm⟩ rfl hvX hcc;have hTK:=fun W (h:RdV w.heap.size (w.heap.size+1) s xf ⟨l,(n,r)::st,gr⟩ vN (.slice (some ⟨gL,0,none⟩) (st.length+1:Nat) capL) w W)=>ptake_calls hs ⟨l,(n,r)::st,gr⟩ ⟨xk,xp,xf,xt,xn,xm⟩ h3 hbd (by simp) ha hpi.2.2.2 W h
     have hbd2:=take_bnd xp xf ⟨l,(n,r)::st,gr⟩ ⟨xk,xp,xf,xt,xn,xm⟩ hbd h5
     by_cases htk:tkE ⟨l,(n,r)::st,gr⟩ ⟨xk,xp,xf,xt,xn,xm⟩=0
     ·rw [htk] at hft
      have hpi2:=take_inv s xp ⟨l,(n,r)::st,gr⟩ ⟨xk,xp,xf,xt,xn,xm⟩ hpi hft h3 (next_kinds s xp _ hvX).1 (next_kinds s xp _ hvX).2.1 (next_kinds s xp _ hvX).2.2;rw [readM_step s k xp _ ⟨xk,xp,xf,xt,xn,xm⟩ 0 hlt hft hvX] at hres;rw [htk] at hTK;have HNX:Hid (∀W,RdV w.heap.size (w.heap.size+1) s xp ⟨l,(n,r)::st,gr⟩ vN (.slice (some ⟨gL,0,none⟩) (st.length+1:Nat) capL) w W→Calls Tryz.prog 47 #[.pointer (some ⟨w.heap.size+1,0,none⟩)] W fun e w'=>e=.returned (.tuple #[.agg (woI xk xp xf xt xn xm),.int .i64 0,.int .i64 0])∧RdV w.heap.size (w.heap.size+1) s xf ⟨l,(n,r)::st,gr⟩ vN (.slice (some ⟨gL,0,none⟩) (st.length+1:Nat) capL) w w'):=Lib.hid hNX;have HTK:Hid (∀W,RdV w.heap.size (w.heap.size+1) s xf ⟨l,(n,r)::st,gr⟩ vN (.slice (some ⟨gL,0,none⟩) (st.length+1:Nat) capL) w W→Calls Tryz.prog 48 #[.pointer (some ⟨w.heap.size+1,0,none⟩),.agg (woI xk xp xf xt xn xm)] W fun e w'=>e=.returned (.int .i64 0)∧(0=0→∃vN' vL',RdV w.heap.size (w.heap.size+1) s xf (takeP ⟨l,(n,r)::st,gr⟩ ⟨xk,xp,xf,xt,xn,xm⟩) vN' vL' w w')∧((0:Nat)≠0→Below W.heap.size W w')):=Lib.hid hTK;have HF:=Lib.hid (show _∧_∧_∧_∧_ from ⟨hres,hpi2,hbd2,h5,h6⟩);clear hres hpi2 hbd2 h5 h6 hNX hTK hft htk h3 hvX hcc hpi hbd
      go_wp2_with (go_at_call 45;refine (HI.out _).mono ?_;rintro e w' ⟨rfl,rfl⟩)
      refine (HNX.out _ HR.out).mono ?_;rintro e w2 ⟨rfl,hr2⟩;clear HNX HR HB
      go_upto_region 6 with fail
      have HW:=Lib.hid (Blk.new w2 (woI xk xp xf xt xn xm) 91);have HR:=Lib.hid (hr2.alloc (.cells (woI xk xp xf xt xn xm) 91));clear hr2;generalize w2.alloc (.cells (woI xk xp xf xt xn xm) 91)=w3 at*;generalize w2.heap.size=gW at*;have g0:=HW.out.cell 0;have g1:=HW.out.cell 1;have g2:=HW.out.cell 2;have g3:=HW.out.cell 3;have g4:=HW.out.cell 4;have g5:=HW.out.cell 5;have g6:=HW.out.cell 6;have g7:=HW.out.cell 7;have g8:=HW.out.cell 8;simp only [List.getElem?_toArray,List.getElem?_cons_zero,List.getElem?_cons_succ] at g0 g1 g2 g3 g4 g5 g6 g7 g8
      go_wp2_with fail
      refine (HTK.out _ HR.out).mono ?_;rintro e w4 ⟨rfl,hr4,_⟩;obtain ⟨vN2,vL2,hr4⟩:=hr4 trivial;clear HTK HR HW g0 g1 g2 g3 g4 g5 g6 g7 g8;have HR:=Lib.hid hr4;have cA:=hr4.c.2.1;clear hr4
      go_wp2_with fail
      go_roundw
      case rel=>
       obtain ⟨q1,q2,q3,q4,q5⟩:=HF.out;exact ⟨k,xf,_,vN2,vL2,q5,by omega,q1,q2,q3,HR.out⟩
      case measure=>
       obtain ⟨_,_,_,q4,_⟩:=HF.out;rw [cA,HC1.out]
       simp [intOf];omega
     ·have hfn:firstP ⟨l,(n,r)::st,gr⟩ (bt s xp)≠0:=by rw [hft];exact htk
      rw [readM_first s k xp _ _ hlt hft htk] at hres;have qe:((tkE ⟨l,(n,r)::st,gr⟩ ⟨xk,xp,xf,xt,xn,xm⟩:Int) !=0)=true:=by rw [bne_iff_ne];omega
      have HNE:=Lib.hid htk;generalize tkE ⟨l,(n,r)::st,gr⟩ ⟨xk,xp,xf,xt,xn,xm⟩=TE at*;have HNX:Hid (∀W,RdV w.heap.size (w.heap.size+1) s xp ⟨l,(n,r)::st,gr⟩ vN (.slice (some ⟨gL,0,none⟩) (st.length+1:Nat) capL) w W→Calls Tryz.prog 47 #[.pointer (some ⟨w.heap.size+1,0,none⟩)] W fun e w'=>e=.returned (.tuple #[.agg (woI xk xp xf xt xn xm),.int .i64 0,.int .i64 0])∧RdV w.heap.size (w.heap.size+1) s xf ⟨l,(n,r)::st,gr⟩ vN (.slice (some ⟨gL,0,none⟩) (st.length+1:Nat) capL) w w'):=Lib.hid hNX;have HTK:Hid (∀W,RdV w.heap.size (w.heap.size+1) s xf ⟨l,(n,r)::st,gr⟩ vN (.slice (some ⟨gL,0,none⟩) (st.length+1:Nat) capL) w W→Calls Tryz.prog 48 #[.pointer (some ⟨w.heap.size+1,0,none⟩),.agg (woI xk xp xf xt xn xm)] W fun e w'=>e=.returned (.int .i64 TE)∧(TE=0→∃vN' vL',RdV w.heap.size (w.heap.size+1) s xf (takeP ⟨l,(n,r)::st,gr⟩ ⟨xk,xp,xf,xt,xn,xm⟩) vN' vL' w w')∧(TE≠0→Below W.heap.size W w')):=Lib.hid hTK;have HRS:=Lib.hid hres;clear hres hbd2 h5 h6 hNX hTK hft htk h3 hvX hcc hpi hbd hfn
      go_wp2_with (go_at_call 45;refine (HI.out _).mono ?_;rintro e w' ⟨rfl,rfl⟩)
      refine (HNX.out _ HR.out).mono ?_;rintro e w2 ⟨rfl,hr2⟩;clear HNX HR HB
      go_upto_region 6 with fail
      have HW:=Lib.hid (Blk.new w2 (woI xk xp xf xt xn xm) 91);have HR:=Lib.hid (hr2.alloc (.cells (woI xk xp xf xt xn xm) 91));clear hr2;generalize w2.alloc (.cells (woI xk xp xf xt xn xm) 91)=w3 at*;generalize w2.heap.size=gW at*;have g0:=HW.out.cell 0;have g1:=HW.out.cell 1;have g2:=HW.out.cell 2;have g3:=HW.out.cell 3;have g4:=HW.out.cell 4;have g5:=HW.out.cell 5;have g6:=HW.out.cell 6;have g7:=HW.out.cell 7;have g8:=HW.out.cell 8;simp only [List.getElem?_toArray,List.getElem?_cons_zero,List.getElem?_cons_succ] at g0 g1 g2 g3 g4 g5 g6 g7 g8
      go_wp2_with fail
      refine (HTK.out _ HR.out).mono ?_;rintro e w4 ⟨rfl,_,hb4⟩;replace hb4:=hb4 HNE.out;have hw4:=HW.out.below hb4 HW.out.lt;have HB4:=Lib.hid ((HR.out.below hb4).bel);clear HTK HR HW g0 g1 g2 g3 g4 g5 g6 g7 g8 hb4;have g1:=hw4.cell 1;simp only [List.getElem?_toArray,List.getElem?_cons_zero,List.getElem?_cons_succ] at g1;clear hw4
      go_wp2_with fail
      go_quiet (fail)
      go_wp2_with fail
      rw [←HRS.out];exact bodyPost_ret (v:=.tuple #[.pointer none,.int .i64 TE,.int .i64 ((xp:Int)+1)]) (by simp [results,Tryz.results27,go_sem]<;>rfl) rfl (.inl ⟨HNE.out,rfl,below_drN HB4.out _⟩)
    ·simp only at h1
     have hft:=first_err s a ⟨l,(n,r)::st,gr⟩ n r st _ er pl rfl hvX h1 hcc;rw [readM_err s k a _ _ er pl hlt hft hvX h1] at hres;have hNX:=fun W (h:RdV w.heap.size (w.heap.size+1) s a ⟨l,(n,r)::st,gr⟩ vN (.slice (some ⟨gL,0,none⟩) (st.length+1:Nat) capL) w W)=>pnext_calls hs xk xp xf xt xn xm er pl (by rw [←(next_in s a hlt).1];exact hvX) W h
     simp only [if_neg h1] at hNX;have HNX:Hid (∀W,RdV w.heap.size (w.heap.size+1) s a ⟨l,(n,r)::st,gr⟩ vN (.slice (some ⟨gL,0,none⟩) (st.length+1:Nat) capL) w W→Calls Tryz.prog 47 #[.pointer (some ⟨w.heap.size+1,0,none⟩)] W fun e w'=>e=.returned (.tuple #[.agg (woI xk xp xf xt xn xm),.int .i64 er,.int .i64 pl])∧RdV w.heap.size (w.heap.size+1) s a ⟨l,(n,r)::st,gr⟩ vN (.slice (some ⟨gL,0,none⟩) (st.length+1:Nat) capL) w w'):=Lib.hid hNX;have qe:((er:Int) !=0)=true:=by rw [bne_iff_ne];omega
     have HNE:=Lib.hid h1;have HRS:=Lib.hid hres;clear hres hNX hft h1 hvX hcc hpi hbd
     go_wp2_with (go_at_call 45;refine (HI.out _).mono ?_;rintro e w' ⟨rfl,rfl⟩)
     refine (HNX.out _ HR.out).mono ?_;rintro e w2 ⟨rfl,hr2⟩;clear HNX HR HB;have HB2:=Lib.hid hr2.bel;have hsz:=hr2.size;clear hr2
     go_wp2_with fail
     rw [←HRS.out];exact bodyPost_ret (v:=.tuple #[.pointer none,.int .i64 er,.int .i64 pl]) (by simp [results,Tryz.results27,go_sem]<;>rfl) rfl (.inl ⟨HNE.out,rfl,HB2.out.alloc hsz _⟩)
  ·obtain rfl:a=s.size:=by omega
   rw [readM_end] at hres;subst hres;have HR:=Lib.hid hr;have HF:=Lib.hid (show _∧_ from ⟨hpi.1,hbd⟩);clear hpi hbd hr
   go_wp2_with fail
   exact bodyPost_ret (v:=.tuple #[.pointer (some ⟨w.heap.size+1,0,none⟩),.int .i64 0,.int .i64 0]) (by simp [results,Tryz.results27,go_sem]<;>rfl) rfl (.inr ⟨rfl,_,_,_,_,rfl,HR.out,HF.out.2,HF.out.1⟩)
end Go.Proofs.YtbccojjcdcighaaGreatDoor

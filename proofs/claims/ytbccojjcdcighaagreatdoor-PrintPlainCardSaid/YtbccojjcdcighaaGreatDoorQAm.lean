/- Texts put together: Hh Hi. -/
import Derived.Test.YtbccojjcdcighaaGreatDoorQAk
import Derived.RegionTactic
import Derived.BigRegion
import Derived.BigQuiet
import Derived.Outline
import Derived.Deep.QuietTactic
import Derived.Deep.DeepCutAuto
import Derived.Deep.RegionLaw
namespace Go.Proofs.YtbccojjcdcighaaGreatDoor
open Go.RowKit BS
theorem nd_zero7 (k c n m:Int):ndA ⟨k,c,n,m,0⟩=#[.int .i64 k,.int .i64 c,.int .i64 n,.int .i64 m,.int .u64 0,.int .u64 0,.int .u64 0,.int .u64 0]:=by
 have z0:wd (0:BitVec 256) 0=0:=by decide
 have z1:wd (0:BitVec 256) 1=0:=by decide
 have z2:wd (0:BitVec 256) 2=0:=by decide
 have z3:wd (0:BitVec 256) 3=0:=by decide
 show ndI k c n m 0=_
 unfold ndI;rw [z0,z1,z2,z3]
 rfl
structure BxV (base N B B2:Nat) (A:Nat→Prop) (l:List NdN) (ps rs:List Nat) (g:Int) (vN vP vR:Value) (w0 w:World):Prop where
 sv:SV base N A l ps rs vN vP vR w
 blk:Blk w B (stW vN vP vR g) 82
 res:Blk w B2 stO 82
 nB:¬A B
 nB2:¬A B2
 kp:KpA (fun k=>A k∨k=B) w0 w
 nE:B≠B2
section
variable {base N B B2 : Nat} {A : Nat → Prop} {l : List NdN} {ps rs : List Nat} {g : Int} {vN vP vR : Value} {w0 w : World}
theorem BxV.below (h:BxV base N B B2 A l ps rs g vN vP vR w0 w) {w':World} (hb:Below w.heap.size w w'):BxV base N B B2 A l ps rs g vN vP vR w0 w':=
 ⟨h.sv.below hb,h.blk.below hb h.blk.lt,h.res.below hb h.res.lt,h.nB,h.nB2,h.kp.below hb,h.nE⟩
theorem BxV.alloc (h:BxV base N B B2 A l ps rs g vN vP vR w0 w) (o:Obj):BxV base N B B2 A l ps rs g vN vP vR w0 (w.alloc o):=h.below ((Below.refl _ _).alloc (Nat.le_refl _) o)
theorem BxV.drew (h:BxV base N B B2 A l ps rs g vN vP vR w0 w):BxV base N B B2 A l ps rs g vN vP vR w0 w.drew:=⟨h.sv.drew,h.blk,h.res,h.nB,h.nB2,h.kp.drew,h.nE⟩
theorem BxV.c (h:BxV base N B B2 A l ps rs g vN vP vR w0 w):w.cell? ⟨B,0,none⟩=some vN∧w.cell? ⟨B,1,none⟩=some vP∧w.cell? ⟨B,2,none⟩=some vR∧w.cell? ⟨B,3,none⟩=some (.int .i64 g):=⟨h.blk.cell 0,h.blk.cell 1,h.blk.cell 2,h.blk.cell 3⟩
theorem BxV.f (h:BxV base N B B2 A l ps rs g vN vP vR w0 w):w.frozen? ⟨B,0,none⟩=false∧w.frozen? ⟨B,1,none⟩=false∧w.frozen? ⟨B,2,none⟩=false∧w.frozen? ⟨B,3,none⟩=false:=⟨h.blk.frozen 0,h.blk.frozen 1,h.blk.frozen 2,h.blk.frozen 3⟩
theorem Blk.ne_set {W:World} {B':Nat} {vs:Array Value} {t:TypeId} (h:Blk W B' vs t) {g':Nat} (hA:A g') (hn:¬A B') (x:Nat) (v:Value):Blk (W.setCell ⟨g',x,none⟩ v) B' vs t:=h.other (by rintro rfl;exact hn hA) x v
theorem BxV.pushN (h:BxV base N B B2 A l ps rs g vN vP vR w0 w) {w1:World} {nd:NdN} {g' cap:Nat} (hown:w1.ownsRow base 45 8 (.slice (some ⟨g',0,none⟩) (l.length+1:Nat) cap) (l.length+1) (ndCells l++(ndA nd).toList)) (hg:w.grownBy w1 vN.ownBlock) (hat:vN.ownBlock=some g'∨w.heap.size≤g'):
 BxV base N B B2 A (l++[nd]) ps rs g (.slice (some ⟨g',0,none⟩) (l.length+1:Nat) cap) vP vR w0 (w1.setCell ⟨B,0,none⟩ (.slice (some ⟨g',0,none⟩) (l.length+1:Nat) cap)):=by
 have hb:=h.blk.kept hg (fun e=>h.nB (h.sv.aN _ e.symm));have hr:=h.res.kept hg (fun e=>h.nB2 (h.sv.aN _ e.symm));refine ⟨(h.sv.pushN hown hg hat).set h.nB _ _,?_,hr.other (Ne.symm h.nE) _ _,h.nB,h.nB2,(h.kp.grown hg fun k e=>.inl (.inl (h.sv.aN k e))).set (.inl (.inr rfl)) _ _,h.nE⟩;have:=hb.set 0 (.slice (some ⟨g',0,none⟩) (l.length+1:Nat) cap)
 simpa using this
theorem BxV.setP {n g' cap:Nat} (h:BxV base N B B2 A l (ps++[n]) rs g vN (.slice (some ⟨g',0,none⟩) (ps.length+1:Nat) cap) vR w0 w) (n':Nat):BxV base N B B2 A l (ps++[n']) rs g vN (.slice (some ⟨g',0,none⟩) (ps.length+1:Nat) cap) vR w0 (w.setCell ⟨g',ps.length,none⟩ (.int .i64 n')):=
 ⟨h.sv.setP n',h.blk.ne_set (h.sv.aP g' rfl) h.nB _ _,h.res.ne_set (h.sv.aP g' rfl) h.nB2 _ _,h.nB,h.nB2,h.kp.set (.inl (.inl (h.sv.aP g' rfl))) _ _,h.nE⟩
theorem BxV.setR {n g' cap:Nat} (h:BxV base N B B2 A l ps (rs++[n]) g vN vP (.slice (some ⟨g',0,none⟩) (rs.length+1:Nat) cap) w0 w) (n':Nat):BxV base N B B2 A l ps (rs++[n']) g vN vP (.slice (some ⟨g',0,none⟩) (rs.length+1:Nat) cap) w0 (w.setCell ⟨g',rs.length,none⟩ (.int .i64 n')):=
 ⟨h.sv.setR n',h.blk.ne_set (h.sv.aR g' rfl) h.nB _ _,h.res.ne_set (h.sv.aR g' rfl) h.nB2 _ _,h.nB,h.nB2,h.kp.set (.inl (.inl (h.sv.aR g' rfl))) _ _,h.nE⟩
theorem BxV.pushP (h:BxV base N B B2 A l ps rs g vN vP vR w0 w) {w1:World} {n g' cap:Nat} (hown:w1.ownsRow base 3 1 (.slice (some ⟨g',0,none⟩) (ps.length+1:Nat) cap) (ps.length+1) (inC ps++[.int .i64 n])) (hg:w.grownBy w1 vP.ownBlock) (hat:vP.ownBlock=some g'∨w.heap.size≤g'):
 BxV base N B B2 A l (ps++[n]) rs g vN (.slice (some ⟨g',0,none⟩) (ps.length+1:Nat) cap) vR w0 (w1.setCell ⟨B,1,none⟩ (.slice (some ⟨g',0,none⟩) (ps.length+1:Nat) cap)):=by
 have hb:=h.blk.kept hg (fun e=>h.nB (h.sv.aP _ e.symm));have hr:=h.res.kept hg (fun e=>h.nB2 (h.sv.aP _ e.symm));refine ⟨(h.sv.pushP hown hg hat).set h.nB _ _,?_,hr.other (Ne.symm h.nE) _ _,h.nB,h.nB2,(h.kp.grown hg fun k e=>.inl (.inl (h.sv.aP k e))).set (.inl (.inr rfl)) _ _,h.nE⟩;have:=hb.set 1 (.slice (some ⟨g',0,none⟩) (ps.length+1:Nat) cap)
 simpa using this
theorem BxV.pushR (h:BxV base N B B2 A l ps rs g vN vP vR w0 w) {w1:World} {n g' cap:Nat} (hown:w1.ownsRow base 3 1 (.slice (some ⟨g',0,none⟩) (rs.length+1:Nat) cap) (rs.length+1) (inC rs++[.int .i64 n])) (hg:w.grownBy w1 vR.ownBlock) (hat:vR.ownBlock=some g'∨w.heap.size≤g'):
 BxV base N B B2 A l ps (rs++[n]) g vN vP (.slice (some ⟨g',0,none⟩) (rs.length+1:Nat) cap) w0 (w1.setCell ⟨B,2,none⟩ (.slice (some ⟨g',0,none⟩) (rs.length+1:Nat) cap)):=by
 have hb:=h.blk.kept hg (fun e=>h.nB (h.sv.aR _ e.symm));have hr:=h.res.kept hg (fun e=>h.nB2 (h.sv.aR _ e.symm));refine ⟨(h.sv.pushR hown hg hat).set h.nB _ _,?_,hr.other (Ne.symm h.nE) _ _,h.nB,h.nB2,(h.kp.grown hg fun k e=>.inl (.inl (h.sv.aR k e))).set (.inl (.inr rfl)) _ _,h.nE⟩;have:=hb.set 2 (.slice (some ⟨g',0,none⟩) (rs.length+1:Nat) cap)
 simpa using this
theorem BxV.popP {n g' cap:Nat} (h:BxV base N B B2 A l (ps++[n]) rs g vN (.slice (some ⟨g',0,none⟩) (ps.length+1:Nat) cap) vR w0 w):BxV base N B B2 A l ps rs g vN (.slice (some ⟨g',0,none⟩) (ps.length:Nat) cap) vR w0 (w.setCell ⟨B,1,none⟩ (.slice (some ⟨g',0,none⟩) (ps.length:Nat) cap)):=
 ⟨h.sv.popP.set h.nB _ _,by have:=h.blk.set 1 (.slice (some ⟨g',0,none⟩) (ps.length:Nat) cap);simpa using this,h.res.other (Ne.symm h.nE) _ _,h.nB,h.nB2,h.kp.set (.inl (.inr rfl)) _ _,h.nE⟩
theorem BxV.popR {n g' cap:Nat} (h:BxV base N B B2 A l ps (rs++[n]) g vN vP (.slice (some ⟨g',0,none⟩) (rs.length+1:Nat) cap) w0 w):BxV base N B B2 A l ps rs g vN vP (.slice (some ⟨g',0,none⟩) (rs.length:Nat) cap) w0 (w.setCell ⟨B,2,none⟩ (.slice (some ⟨g',0,none⟩) (rs.length:Nat) cap)):=
 ⟨h.sv.popR.set h.nB _ _,by have:=h.blk.set 2 (.slice (some ⟨g',0,none⟩) (rs.length:Nat) cap);simpa using this,h.res.other (Ne.symm h.nE) _ _,h.nB,h.nB2,h.kp.set (.inl (.inr rfl)) _ _,h.nE⟩
theorem BxV.setG (h:BxV base N B B2 A l ps rs g vN vP vR w0 w) (g2:Int):BxV base N B B2 A l ps rs g2 vN vP vR w0 (w.setCell ⟨B,3,none⟩ (.int .i64 g2)):=
 ⟨h.sv.set h.nB _ _,by have:=h.blk.set 3 (.int .i64 g2);simpa using this,h.res.other (Ne.symm h.nE) _ _,h.nB,h.nB2,h.kp.set (.inl (.inr rfl)) _ _,h.nE⟩
end
section
variable {base N B B2 K : Nat} {A : Nat → Prop} {l : List NdN} {ps rs : List Nat} {g : Int} {vN vP vR : Value} {w0 w : World}
theorem SV.topPK {n:Nat} (hK:ps.length=K) (h:SV base N A l (ps++[n]) rs vN vP vR w):∃g cap,vP=.slice (some ⟨g,0,none⟩) (K+1:Nat) cap∧g<w.heap.size∧K+1≤cap∧w.cell? ⟨g,K,none⟩=some (.int .i64 n)∧w.frozen? ⟨g,K,none⟩=false:=by subst hK;exact h.topP
theorem SV.topRK {n:Nat} (hK:rs.length=K) (h:SV base N A l ps (rs++[n]) vN vP vR w):∃g cap,vR=.slice (some ⟨g,0,none⟩) (K+1:Nat) cap∧g<w.heap.size∧K+1≤cap∧w.cell? ⟨g,K,none⟩=some (.int .i64 n)∧w.frozen? ⟨g,K,none⟩=false:=by subst hK;exact h.topR
theorem BxV.setPK {n g' cap:Nat} (hK:ps.length=K) (h:BxV base N B B2 A l (ps++[n]) rs g vN (.slice (some ⟨g',0,none⟩) (K+1:Nat) cap) vR w0 w) (n':Nat) {v:Int} (hv:v=n'):BxV base N B B2 A l (ps++[n']) rs g vN (.slice (some ⟨g',0,none⟩) (K+1:Nat) cap) vR w0 (w.setCell ⟨g',K,none⟩ (.int .i64 v)):=by subst hK;subst hv;exact h.setP n'
theorem BxV.setRK {n g' cap:Nat} (hK:rs.length=K) (h:BxV base N B B2 A l ps (rs++[n]) g vN vP (.slice (some ⟨g',0,none⟩) (K+1:Nat) cap) w0 w) (n':Nat) {v:Int} (hv:v=n'):BxV base N B B2 A l ps (rs++[n']) g vN vP (.slice (some ⟨g',0,none⟩) (K+1:Nat) cap) w0 (w.setCell ⟨g',K,none⟩ (.int .i64 v)):=by subst hK;subst hv;exact h.setR n'
theorem BxV.pushPK (hK:ps.length=K) (h:BxV base N B B2 A l ps rs g vN vP vR w0 w) {w1:World} {n g' cap:Nat} (hown:w1.ownsRow base 3 1 (.slice (some ⟨g',0,none⟩) (K+1:Nat) cap) (K+1) (inC ps++[.int .i64 n])) (hg:w.grownBy w1 vP.ownBlock) (hat:vP.ownBlock=some g'∨w.heap.size≤g'):
 BxV base N B B2 A l (ps++[n]) rs g vN (.slice (some ⟨g',0,none⟩) (K+1:Nat) cap) vR w0 (w1.setCell ⟨B,1,none⟩ (.slice (some ⟨g',0,none⟩) (K+1:Nat) cap)):=by subst hK;exact h.pushP hown hg hat
theorem BxV.pushRK (hK:rs.length=K) (h:BxV base N B B2 A l ps rs g vN vP vR w0 w) {w1:World} {n g' cap:Nat} (hown:w1.ownsRow base 3 1 (.slice (some ⟨g',0,none⟩) (K+1:Nat) cap) (K+1) (inC rs++[.int .i64 n])) (hg:w.grownBy w1 vR.ownBlock) (hat:vR.ownBlock=some g'∨w.heap.size≤g'):
 BxV base N B B2 A l ps (rs++[n]) g vN vP (.slice (some ⟨g',0,none⟩) (K+1:Nat) cap) w0 (w1.setCell ⟨B,2,none⟩ (.slice (some ⟨g',0,none⟩) (K+1:Nat) cap)):=by subst hK;exact h.pushR hown hg hat
theorem BxV.popPK {n g' cap:Nat} (hK:ps.length=K) (h:BxV base N B B2 A l (ps++[n]) rs g vN (.slice (some ⟨g',0,none⟩) (K+1:Nat) cap) vR w0 w):BxV base N B B2 A l ps rs g vN (.slice (some ⟨g',0,none⟩) (K:Nat) cap) vR w0 (w.setCell ⟨B,1,none⟩ (.slice (some ⟨g',0,none⟩) (K:Nat) cap)):=by subst hK;exact h.popP
theorem BxV.popRK {n g' cap:Nat} (hK:rs.length=K) (h:BxV base N B B2 A l ps (rs++[n]) g vN vP (.slice (some ⟨g',0,none⟩) (K+1:Nat) cap) w0 w):BxV base N B B2 A l ps rs g vN vP (.slice (some ⟨g',0,none⟩) (K:Nat) cap) w0 (w.setCell ⟨B,2,none⟩ (.slice (some ⟨g',0,none⟩) (K:Nat) cap)):=by subst hK;exact h.popR
end
theorem bx_new {base N:Nat} {A:Nat→Prop} {l:List NdN} {ps rs:List Nat} {vN vP vR:Value} {w:World} (g:Int) (h:SV base N A l ps rs vN vP vR w):
 BxV base (w.heap.size+2) w.heap.size (w.heap.size+1) (fun k=>A k∧k≠w.heap.size∧k≠w.heap.size+1) l ps rs g vN vP vR w ((w.alloc (.cells (stW vN vP vR g) 82)).alloc (.cells stO 82)):=by
 have h2:=(h.alloc (.cells (stW vN vP vR g) 82)).alloc (.cells stO 82);have hr:=Blk.new (w.alloc (.cells (stW vN vP vR g) 82)) stO 82;rw [World.size_alloc] at hr;have hk:∀{v:Value} {e:TypeId} {size n:Nat} {xs:List Value},w.ownsRow base e size v n xs→∀k,v.ownBlock=some k→k≠w.heap.size∧k≠w.heap.size+1:=fun ho k e=>by have:=own_lt ho e;omega
 refine ⟨⟨h2.nodes,h2.pieces,h2.rows,fun k e=>⟨h.aN k e,hk h.nodes k e⟩,fun k e=>⟨h.aP k e,hk h.pieces k e⟩,fun k e=>⟨h.aR k e,hk h.rows k e⟩,fun k hk=>⟨h.up k (Nat.le_trans h.sz (by omega)),by omega,by omega⟩,by simp,Nat.le_trans h.bs (Nat.le_trans h.sz (by omega)),h.nP,h.nR,h.pR⟩,
  (Blk.new w _ _).alloc _,hr,fun h=>h.2.1 rfl,fun h=>h.2.2 rfl,((KpA.refl _ _).alloc _).alloc _,by omega⟩
theorem bx_end {base N:Nat} {A:Nat→Prop} {l:List NdN} {ps rs:List Nat} {vN vP vR:Value} {w W:World} {g:Int} (hN:N≤w.heap.size) (hup:∀k,N≤k→A k) (hbs:base≤N) (h:BxV base (w.heap.size+2) w.heap.size (w.heap.size+1) (fun k=>A k∧k≠w.heap.size∧k≠w.heap.size+1) l ps rs g vN vP vR w W) (cs:Array Value):
 SV base N A l ps rs vN vP vR (W.setRow (w.heap.size+1) cs)∧KpA A w (W.setRow (w.heap.size+1) cs):=by
 refine ⟨(h.sv.row h.nB2 cs).mono hbs (Nat.le_trans hN (by have:=h.kp.size;simpa [World.setRow] using this)) (fun k hk _=>hk.1) hup,(h.kp.row (.inr (by omega)) cs).mono fun k hk=>?_⟩;rcases hk with hk|hk
 ·exact hk.1
 ·exact hup k (by omega)
theorem st_one7 (aN aP aR:Option Addr) (n p r cN cP cR:Nat) (g:Int):((stW (.slice aN n cN) (.slice aP p cP) (.slice aR r cR) g).all fun x=>x.oneCell')=true:=by simp [Value.oneCell']
set_option maxRecDepth 100000 in
set_option maxHeartbeats 8000000 in
theorem rrow_calls {base N K:Nat} {A:Nat→Prop} {l:List NdN} {ps rs:List Nat} {n r gr:Nat} {vN vP vR:Value} (w:World) (h:SV base N A l (ps++[n]) (rs++[r]) vN vP vR w) (hp:ps.length=K) (hq:rs.length=K) (hl:l.length≤4000000) (hn:n≤2000000) (hr':r≤2000000) (hp':K≤2000000):
 Calls Tryz.prog 95 #[.agg (stW vN vP vR gr)] w fun e w'=>∃vN',e=.returned (.agg (stW vN' vP vR gr))∧SV base N A (l++rowT n) (ps++[0]) (rs++[r+1]) vN' vP vR w'∧KpA A w w':=by
 obtain ⟨i0,hi0,hz0,hz1,hz2⟩:=info_parts info8n;obtain ⟨aN,cN,rfl⟩:=h.formN;obtain ⟨gP,cP,rfl,_⟩:=h.topPK hp;obtain ⟨gR,cR,rfl,_⟩:=h.topRK hq;have hx:=bx_new (gr:Int) h;have hsz:=h.sz;have hup:=h.up;have hbs:=h.bs;have HU:=Lib.hid (And.intro hsz (And.intro hup hbs));have HPQ:=Lib.hid (And.intro hp hq);clear h hup hp hq;go_enter Tryz.func95,Tryz.ntmps95
 go_upto_region 1 with fail
 have e0:(w.alloc (.cells #[.slice aN l.length cN,.slice (some ⟨gP,0,none⟩) (K+1:Nat) cP,.slice (some ⟨gR,0,none⟩) (K+1:Nat) cR,.int .i64 gr] 82)).alloc (.cells #[.slice none 0 0,.slice none 0 0,.slice none 0 0,.int .i64 0] 82)=(w.alloc (.cells (stW (.slice aN l.length cN) (.slice (some ⟨gP,0,none⟩) (K+1:Nat) cP) (.slice (some ⟨gR,0,none⟩) (K+1:Nat) cR) gr) 82)).alloc (.cells stO 82):=rfl
 try rw [e0]
 clear e0;generalize (w.alloc (.cells (stW (.slice aN l.length cN) (.slice (some ⟨gP,0,none⟩) (K+1:Nat) cP) (.slice (some ⟨gR,0,none⟩) (K+1:Nat) cR) gr) 82)).alloc (.cells stO 82)=w1 at*;obtain ⟨c0,c1,c2,c3⟩:=hx.c;obtain ⟨f0,f1,f2,f3⟩:=hx.f;obtain ⟨_,_,e,lP,kP,tP,yP⟩:=hx.sv.topPK HPQ.out.1
 cases e
 obtain ⟨_,_,e,lR,kR,tR,yR⟩:=hx.sv.topRK HPQ.out.2
 cases e
 have HX:=Lib.hid hx;clear hx;have q0:(0:Int)≤(K:Int):=by omega
 have q1:(K:Int)<((K+1:Nat):Int):=by omega
 by_cases h0:n=0
 ·subst h0
  go_upto_region 7 with (at_builtin;go_loud (refine wpList_append_lies _ rfl _ _ 22 rfl base 45 i0 (.agg #[.int .i64 0,.int .i64 0,.int .i64 0,.int .i64 0,.int .u64 0,.int .u64 0,.int .u64 0,.int .u64 0]) 8 64 Tryz.underlying22 hi0 hz0 hz1 hz2 rfl (by decide) (.slice aN l.length cN) l.length (ndCells l) rfl (HX.out.alloc _).sv.nodes ⟨w1.heap.size,0,none⟩ 1 1 [.int .i64 1,.int .i64 0,.int .i64 0,.int .i64 0,.int .u64 0,.int .u64 0,.int .u64 0,.int .u64 0] rfl rfl (World.news_of_block (cs:=[.int .i64 1,.int .i64 0,.int .i64 0,.int .i64 0,.int .u64 0,.int .u64 0,.int .u64 0,.int .u64 0].toArray) (t:=45) (fr:=(0,0)) (heap_alloc_new w1 _)) (by simp [Value.oneCell']) (by omega) (by simp only [maxLen];omega) (by omega) (by have:=HX.out.sv.sz;have:=HX.out.sv.bs;simp;omega) (w1.heap.size+1) (by simp) ?_);intro g' cap' w2 hown hgrow hat hlt;have hb2:=(HX.out.alloc _).blk.kept hgrow (fun e=>(HX.out.nB (HX.out.sv.aN _ e.symm)));have j0:=hb2.cell 0;have y0:=hb2.frozen 0;simp only [List.getElem?_toArray,List.getElem?_cons_zero] at j0)
  have h2:=(HX.out.alloc _).pushN (nd:=⟨1,0,0,0,0⟩) (by rw [nd_zero7];exact hown) hgrow (hat.imp id fun e=>by rw [e];simp);clear HX hown hgrow hat hlt hb2 j0 y0;clear c0 c1 c2 c3 f0 f1 f2 f3 lP kP tP yP lR kR tR yR;generalize w2.setCell ⟨w.heap.size,0,none⟩ (.slice (some ⟨g',0,none⟩) (l.length+1:Nat) cap')=w4 at*;obtain ⟨c0,c1,c2,c3⟩:=h2.c;obtain ⟨f0,f1,f2,f3⟩:=h2.f;obtain ⟨_,_,e,lP,kP,tP,yP⟩:=h2.sv.topPK HPQ.out.1
  cases e
  obtain ⟨_,_,e,lR,kR,tR,yR⟩:=h2.sv.topRK HPQ.out.2
  cases e
  have HX:=Lib.hid h2;clear h2
  go_upto_region 8 with fail
  have h3:=HX.out.setPK HPQ.out.1 0 (v:=0) rfl;clear HX;clear c0 c1 c2 c3 f0 f1 f2 f3 lP kP tP yP lR kR tR yR;generalize w4.setCell ⟨gP,K,none⟩ (.int .i64 0)=w5 at*;obtain ⟨c0,c1,c2,c3⟩:=h3.c;obtain ⟨f0,f1,f2,f3⟩:=h3.f;obtain ⟨_,_,e,lP,kP,tP,yP⟩:=h3.sv.topPK HPQ.out.1
  cases e
  obtain ⟨_,_,e,lR,kR,tR,yR⟩:=h3.sv.topRK HPQ.out.2
  cases e
  have HX:=Lib.hid h3;clear h3
  go_upto_region 9 with fail
  have h4:=HX.out.setRK HPQ.out.2 (r+1) (v:=(r:Int)+1) rfl;clear HX;clear c0 c1 c2 c3 f0 f1 f2 f3 lP kP tP yP lR kR tR yR;generalize w5.setCell ⟨gR,K,none⟩ (.int .i64 ((r:Int)+1))=w6 at*;obtain ⟨c0,c1,c2,c3⟩:=h4.c;obtain ⟨f0,f1,f2,f3⟩:=h4.f;obtain ⟨_,_,e,lP,kP,tP,yP⟩:=h4.sv.topPK HPQ.out.1
  cases e
  obtain ⟨_,_,e,lR,kR,tR,yR⟩:=h4.sv.topRK HPQ.out.2
  cases e
  have HX:=Lib.hid h4;clear h4
  go_wp2_with ((with_reducible refine wpList_store_st (o:=⟨none,.store 82 _ _,_,_,_,_⟩) rfl 82 _ _ rfl (w.heap.size+1) rfl rfl (run_storeAt_row _ (w.heap.size+1) 82 82 stO (stW (.slice (some ⟨g',0,none⟩) (l.length+1:Nat) cap') (.slice (some ⟨gP,0,none⟩) (K+1:Nat) cP) (.slice (some ⟨gR,0,none⟩) (K+1:Nat) cR) (gr:Int)) ?_ ?_ ?_ ?_) ?_);exact HX.out.res;exact infoSt7;rfl;exact st_one7 _ _ _ _ _ _ _ _ _ _)
  have hE:=bx_end HU.out.1 HU.out.2.1 HU.out.2.2 HX.out (stW (.slice (some ⟨g',0,none⟩) (l.length+1:Nat) cap') (.slice (some ⟨gP,0,none⟩) (K+1:Nat) cP) (.slice (some ⟨gR,0,none⟩) (K+1:Nat) cR) (gr:Int));exact bodyPost_ret (v:=.agg (stW (.slice (some ⟨g',0,none⟩) (l.length+1:Nat) cap') (.slice (some ⟨gP,0,none⟩) (K+1:Nat) cP) (.slice (some ⟨gR,0,none⟩) (K+1:Nat) cR) (gr:Int))) (results_cell_row rfl _ _ (w.heap.size+1) 82 (stW (.slice (some ⟨g',0,none⟩) (l.length+1:Nat) cap') (.slice (some ⟨gP,0,none⟩) (K+1:Nat) cP) (.slice (some ⟨gR,0,none⟩) (K+1:Nat) cR) (gr:Int)) (0,0) _ rfl (Blk.setRow HX.out.res) Tryz.underlying82 rfl infoSt7) rfl ⟨_,rfl,hE.1,hE.2⟩
 by_cases h1:n=1
 ·subst h1
  have HT:Hid (l++rowT 1=l):=Lib.hid (List.append_nil l)
  go_upto_region 8 with fail
  have h3:=HX.out.setPK HPQ.out.1 0 (v:=0) rfl;clear HX;clear c0 c1 c2 c3 f0 f1 f2 f3 lP kP tP yP lR kR tR yR;generalize w1.setCell ⟨gP,K,none⟩ (.int .i64 0)=w5 at*;obtain ⟨c0,c1,c2,c3⟩:=h3.c;obtain ⟨f0,f1,f2,f3⟩:=h3.f;obtain ⟨_,_,e,lP,kP,tP,yP⟩:=h3.sv.topPK HPQ.out.1
  cases e
  obtain ⟨_,_,e,lR,kR,tR,yR⟩:=h3.sv.topRK HPQ.out.2
  cases e
  have HX:=Lib.hid h3;clear h3
  go_upto_region 9 with fail
  have h4:=HX.out.setRK HPQ.out.2 (r+1) (v:=(r:Int)+1) rfl;clear HX;clear c0 c1 c2 c3 f0 f1 f2 f3 lP kP tP yP lR kR tR yR;generalize w5.setCell ⟨gR,K,none⟩ (.int .i64 ((r:Int)+1))=w6 at*;obtain ⟨c0,c1,c2,c3⟩:=h4.c;obtain ⟨f0,f1,f2,f3⟩:=h4.f;obtain ⟨_,_,e,lP,kP,tP,yP⟩:=h4.sv.topPK HPQ.out.1
  cases e
  obtain ⟨_,_,e,lR,kR,tR,yR⟩:=h4.sv.topRK HPQ.out.2
  cases e
  have HX:=Lib.hid h4;clear h4
  go_wp2_with ((with_reducible refine wpList_store_st (o:=⟨none,.store 82 _ _,_,_,_,_⟩) rfl 82 _ _ rfl (w.heap.size+1) rfl rfl (run_storeAt_row _ (w.heap.size+1) 82 82 stO (stW (.slice aN l.length cN) (.slice (some ⟨gP,0,none⟩) (K+1:Nat) cP) (.slice (some ⟨gR,0,none⟩) (K+1:Nat) cR) (gr:Int)) ?_ ?_ ?_ ?_) ?_);exact HX.out.res;exact infoSt7;rfl;exact st_one7 _ _ _ _ _ _ _ _ _ _)
  have hE:=bx_end HU.out.1 HU.out.2.1 HU.out.2.2 HX.out (stW (.slice aN l.length cN) (.slice (some ⟨gP,0,none⟩) (K+1:Nat) cP) (.slice (some ⟨gR,0,none⟩) (K+1:Nat) cR) (gr:Int));exact bodyPost_ret (v:=.agg (stW (.slice aN l.length cN) (.slice (some ⟨gP,0,none⟩) (K+1:Nat) cP) (.slice (some ⟨gR,0,none⟩) (K+1:Nat) cR) (gr:Int))) (results_cell_row rfl _ _ (w.heap.size+1) 82 (stW (.slice aN l.length cN) (.slice (some ⟨gP,0,none⟩) (K+1:Nat) cP) (.slice (some ⟨gR,0,none⟩) (K+1:Nat) cR) (gr:Int)) (0,0) _ rfl (Blk.setRow HX.out.res) Tryz.underlying82 rfl infoSt7) rfl ⟨_,rfl,(by rw [HT.out];exact hE.1),hE.2⟩
 ·have hT:rowT n=[⟨5,n,0,0,0⟩]:=by unfold rowT;rw [if_neg h0,if_neg h1];rfl
  have HT:Hid (l++rowT n=l++[⟨5,n,0,0,0⟩]):=Lib.hid (by rw [hT]);have qn0:((n:Int)==0)=false:=by rw [beq_eq_false_iff_ne];omega
  have qn1:decide ((1:Int)<(n:Int))=true:=by rw [decide_eq_true_iff];omega
  clear hT
  go_upto_region 7 with (at_builtin;go_loud (refine wpList_append_lies _ rfl _ _ 22 rfl base 45 i0 (.agg #[.int .i64 0,.int .i64 0,.int .i64 0,.int .i64 0,.int .u64 0,.int .u64 0,.int .u64 0,.int .u64 0]) 8 64 Tryz.underlying22 hi0 hz0 hz1 hz2 rfl (by decide) (.slice aN l.length cN) l.length (ndCells l) rfl (HX.out.alloc _).sv.nodes ⟨w1.heap.size,0,none⟩ 1 1 [.int .i64 5,.int .i64 n,.int .i64 0,.int .i64 0,.int .u64 0,.int .u64 0,.int .u64 0,.int .u64 0] rfl rfl (World.news_of_block (cs:=[.int .i64 5,.int .i64 n,.int .i64 0,.int .i64 0,.int .u64 0,.int .u64 0,.int .u64 0,.int .u64 0].toArray) (t:=45) (fr:=(0,0)) (heap_alloc_new w1 _)) (by simp [Value.oneCell']) (by omega) (by simp only [maxLen];omega) (by omega) (by have:=HX.out.sv.sz;have:=HX.out.sv.bs;simp;omega) (w1.heap.size+1) (by simp) ?_);intro g' cap' w2 hown hgrow hat hlt;have hb2:=(HX.out.alloc _).blk.kept hgrow (fun e=>(HX.out.nB (HX.out.sv.aN _ e.symm)));have j0:=hb2.cell 0;have y0:=hb2.frozen 0;simp only [List.getElem?_toArray,List.getElem?_cons_zero] at j0)
  have h2:=(HX.out.alloc _).pushN (nd:=⟨5,n,0,0,0⟩) (by rw [nd_zero7];exact hown) hgrow (hat.imp id fun e=>by rw [e];simp);clear HX hown hgrow hat hlt hb2 j0 y0;clear c0 c1 c2 c3 f0 f1 f2 f3 lP kP tP yP lR kR tR yR;generalize w2.setCell ⟨w.heap.size,0,none⟩ (.slice (some ⟨g',0,none⟩) (l.length+1:Nat) cap')=w4 at*;obtain ⟨c0,c1,c2,c3⟩:=h2.c;obtain ⟨f0,f1,f2,f3⟩:=h2.f;obtain ⟨_,_,e,lP,kP,tP,yP⟩:=h2.sv.topPK HPQ.out.1
  cases e
  obtain ⟨_,_,e,lR,kR,tR,yR⟩:=h2.sv.topRK HPQ.out.2
  cases e
  have HX:=Lib.hid h2;clear h2
  go_upto_region 8 with fail
  have h3:=HX.out.setPK HPQ.out.1 0 (v:=0) rfl;clear HX;clear c0 c1 c2 c3 f0 f1 f2 f3 lP kP tP yP lR kR tR yR;generalize w4.setCell ⟨gP,K,none⟩ (.int .i64 0)=w5 at*;obtain ⟨c0,c1,c2,c3⟩:=h3.c;obtain ⟨f0,f1,f2,f3⟩:=h3.f;obtain ⟨_,_,e,lP,kP,tP,yP⟩:=h3.sv.topPK HPQ.out.1
  cases e
  obtain ⟨_,_,e,lR,kR,tR,yR⟩:=h3.sv.topRK HPQ.out.2
  cases e
  have HX:=Lib.hid h3;clear h3
  go_upto_region 9 with fail
  have h4:=HX.out.setRK HPQ.out.2 (r+1) (v:=(r:Int)+1) rfl;clear HX;clear c0 c1 c2 c3 f0 f1 f2 f3 lP kP tP yP lR kR tR yR;generalize w5.setCell ⟨gR,K,none⟩ (.int .i64 ((r:Int)+1))=w6 at*;obtain ⟨c0,c1,c2,c3⟩:=h4.c;obtain ⟨f0,f1,f2,f3⟩:=h4.f;obtain ⟨_,_,e,lP,kP,tP,yP⟩:=h4.sv.topPK HPQ.out.1
  cases e
  obtain ⟨_,_,e,lR,kR,tR,yR⟩:=h4.sv.topRK HPQ.out.2
  cases e
  have HX:=Lib.hid h4;clear h4
  go_wp2_with ((with_reducible refine wpList_store_st (o:=⟨none,.store 82 _ _,_,_,_,_⟩) rfl 82 _ _ rfl (w.heap.size+1) rfl rfl (run_storeAt_row _ (w.heap.size+1) 82 82 stO (stW (.slice (some ⟨g',0,none⟩) (l.length+1:Nat) cap') (.slice (some ⟨gP,0,none⟩) (K+1:Nat) cP) (.slice (some ⟨gR,0,none⟩) (K+1:Nat) cR) (gr:Int)) ?_ ?_ ?_ ?_) ?_);exact HX.out.res;exact infoSt7;rfl;exact st_one7 _ _ _ _ _ _ _ _ _ _)
  have hE:=bx_end HU.out.1 HU.out.2.1 HU.out.2.2 HX.out (stW (.slice (some ⟨g',0,none⟩) (l.length+1:Nat) cap') (.slice (some ⟨gP,0,none⟩) (K+1:Nat) cP) (.slice (some ⟨gR,0,none⟩) (K+1:Nat) cR) (gr:Int));exact bodyPost_ret (v:=.agg (stW (.slice (some ⟨g',0,none⟩) (l.length+1:Nat) cap') (.slice (some ⟨gP,0,none⟩) (K+1:Nat) cP) (.slice (some ⟨gR,0,none⟩) (K+1:Nat) cR) (gr:Int))) (results_cell_row rfl _ _ (w.heap.size+1) 82 (stW (.slice (some ⟨g',0,none⟩) (l.length+1:Nat) cap') (.slice (some ⟨gP,0,none⟩) (K+1:Nat) cP) (.slice (some ⟨gR,0,none⟩) (K+1:Nat) cR) (gr:Int)) (0,0) _ rfl (Blk.setRow HX.out.res) Tryz.underlying82 rfl infoSt7) rfl ⟨_,rfl,(by rw [HT.out];exact hE.1),hE.2⟩
end Go.Proofs.YtbccojjcdcighaaGreatDoor

namespace Go.Proofs.YtbccojjcdcighaaGreatDoor
open Go.RowKit BS
theorem BxV.call {base N B B2:Nat} {A:Nat→Prop} {l l2:List NdN} {ps rs ps2 rs2:List Nat} {g g2:Int} {vN vP vR vN2 vP2 vR2:Value} {w0 w w2:World} (h:BxV base N B B2 A l ps rs g vN vP vR w0 w) (hs:SV base N A l2 ps2 rs2 vN2 vP2 vR2 w2) (hk:KpA A w w2):
 BxV base N B B2 A l2 ps2 rs2 g2 vN2 vP2 vR2 w0 (w2.setRow B (stW vN2 vP2 vR2 g2)):=
 ⟨hs.row h.nB _,Blk.setRow (h.blk.kpA hk h.nB),(row_kept7 _ _ _ _ (Ne.symm h.nE)).trans (h.res.kpA hk h.nB2),h.nB,h.nB2,(h.kp.trans (hk.mono fun _ hk=>.inl hk)).row (.inl (.inr rfl)) _,h.nE⟩
set_option maxRecDepth 100000 in
set_option maxHeartbeats 16000000 in
theorem rrows_calls {base N K:Nat} {A:Nat→Prop} {l:List NdN} {ps rs:List Nat} {n r gr:Nat} {vN vP vR:Value} (w:World) (h:SV base N A l (ps++[n]) (rs++[r]) vN vP vR w) (hp:ps.length=K) (hq:rs.length=K) (hl:l.length≤3999990) (hn:n≤2000000) (hr':r≤2000000) (hp':K≤2000000):
 Calls Tryz.prog 69 #[.agg (stW vN vP vR gr)] w fun e w'=>∃vN' vP' vR',e=.returned (.agg (stW vN' vP' vR' gr))∧SV base N A (l++rowT n++rowsT (r+1)) ps rs vN' vP' vR' w'∧KpA A w w':=by
 obtain ⟨i0,hi0,hz0,hz1,hz2⟩:=info_parts info8n;have hl2:(l++rowT n).length≤4000000:=by
  rw [List.length_append];have:(rowT n).length≤1:=by
   unfold rowT
   by_cases h0:n=0
   ·rw [if_pos h0];exact Nat.le_refl _
   ·rw [if_neg h0]
    by_cases h1:n=1
    ·rw [if_pos h1];exact Nat.zero_le _
    ·rw [if_neg h1];exact Nat.le_refl _
  omega
 obtain ⟨aN,cN,rfl⟩:=h.formN;obtain ⟨gP,cP,rfl,_⟩:=h.topPK hp;obtain ⟨gR,cR,rfl,_⟩:=h.topRK hq;have hx:=bx_new (gr:Int) h;have hsz:=h.sz;have hup:=h.up;have hbs:=h.bs;have HU:=Lib.hid (And.intro hsz (And.intro hup hbs));have HPQ:=Lib.hid (And.intro hp hq);clear h hup hp hq;have HRW:=Lib.hid (fun W (h:SV base (w.heap.size+2) (fun k=>A k∧k≠w.heap.size∧k≠w.heap.size+1) l (ps++[n]) (rs++[r]) (.slice aN l.length cN) (.slice (some ⟨gP,0,none⟩) (K+1:Nat) cP) (.slice (some ⟨gR,0,none⟩) (K+1:Nat) cR) W)=>rrow_calls (gr:=gr) W h HPQ.out.1 HPQ.out.2 (by omega) hn hr' hp');go_enter Tryz.func69,Tryz.ntmps69
 go_upto_region 1 with fail
 have e0:(w.alloc (.cells #[.slice aN l.length cN,.slice (some ⟨gP,0,none⟩) (K+1:Nat) cP,.slice (some ⟨gR,0,none⟩) (K+1:Nat) cR,.int .i64 gr] 82)).alloc (.cells #[.slice none 0 0,.slice none 0 0,.slice none 0 0,.int .i64 0] 82)=(w.alloc (.cells (stW (.slice aN l.length cN) (.slice (some ⟨gP,0,none⟩) (K+1:Nat) cP) (.slice (some ⟨gR,0,none⟩) (K+1:Nat) cR) gr) 82)).alloc (.cells stO 82):=rfl
 try rw [e0]
 clear e0;generalize (w.alloc (.cells (stW (.slice aN l.length cN) (.slice (some ⟨gP,0,none⟩) (K+1:Nat) cP) (.slice (some ⟨gR,0,none⟩) (K+1:Nat) cR) gr) 82)).alloc (.cells stO 82)=w1 at*;obtain ⟨c0,c1,c2,c3⟩:=hx.c;obtain ⟨f0,f1,f2,f3⟩:=hx.f;obtain ⟨_,_,e,lP,kP,tP,yP⟩:=hx.sv.topPK HPQ.out.1
 cases e
 obtain ⟨_,_,e,lR,kR,tR,yR⟩:=hx.sv.topRK HPQ.out.2
 cases e
 have HX:=Lib.hid hx;clear hx;have q0:(0:Int)≤(K:Int):=by omega
 have q1:(K:Int)<((K+1:Nat):Int):=by omega
 go_wp2_with fail
 refine (HRW.out _ HX.out.sv).mono ?_;rintro e w2 ⟨vN',rfl,hs,hk⟩;generalize hll:l++rowT n=l2 at*;have HLL:=Lib.hid hll;clear hll;obtain ⟨aM,cM,rfl⟩:=hs.formN;have hb2:=HX.out.blk.kpA hk HX.out.nB;have h2:=HX.out.call (g2:=(gr:Int)) hs hk;clear HRW HX hs hk c0 c1 c2 c3 f0 f1 f2 f3 lP kP tP yP lR kR tR yR
 go_upto_region 2 with ((with_reducible refine wpList_store_st (o:=⟨none,.store 82 _ _,_,_,_,_⟩) rfl 82 _ _ rfl w.heap.size rfl rfl (run_storeAt_row _ w.heap.size 82 82 (stW (.slice aN l.length cN) (.slice (some ⟨gP,0,none⟩) (K+1:Nat) cP) (.slice (some ⟨gR,0,none⟩) (K+1:Nat) cR) (gr:Int)) (stW (.slice aM l2.length cM) (.slice (some ⟨gP,0,none⟩) (K+1:Nat) cP) (.slice (some ⟨gR,0,none⟩) (K+1:Nat) cR) (gr:Int)) ?_ ?_ ?_ ?_) ?_);exact hb2;exact infoSt7;rfl;exact st_one7 _ _ _ _ _ _ _ _ _ _)
 clear hb2;generalize w2.setRow w.heap.size (stW (.slice aM l2.length cM) (.slice (some ⟨gP,0,none⟩) (K+1:Nat) cP) (.slice (some ⟨gR,0,none⟩) (K+1:Nat) cR) (gr:Int))=w3 at*
 by_cases h0:r=0
 ·subst h0
  have HT:Hid (l2++rowsT (0+1)=l2):=Lib.hid (List.append_nil l2);obtain ⟨c0,c1,c2,c3⟩:=h2.c;obtain ⟨f0,f1,f2,f3⟩:=h2.f;obtain ⟨_,_,e,lP,kP,tP,yP⟩:=h2.sv.topPK HPQ.out.1
  cases e
  obtain ⟨_,_,e,lR,kR,tR,yR⟩:=h2.sv.topRK HPQ.out.2
  cases e
  have HX:=Lib.hid h2;clear h2;have qK:=kR;have qK2:=kP
  go_upto_region 6 with fail
  have h5:=HX.out.popRK HPQ.out.2;clear HX;clear c0 c1 c2 c3 f0 f1 f2 f3 lP kP tP yP lR kR tR yR;generalize w3.setCell ⟨w.heap.size,2,none⟩ (.slice (some ⟨gR,0,none⟩) (K:Nat) cR)=w5 at*;obtain ⟨c0,c1,c2,c3⟩:=h5.c;obtain ⟨f0,f1,f2,f3⟩:=h5.f;have HX:=Lib.hid h5;clear h5
  go_upto_region 7 with fail
  have h6:=HX.out.popPK HPQ.out.1;clear HX c0 c1 c2 c3 f0 f1 f2 f3;generalize w5.setCell ⟨w.heap.size,1,none⟩ (.slice (some ⟨gP,0,none⟩) (K:Nat) cP)=w6 at*;obtain ⟨c0,c1,c2,c3⟩:=h6.c;have HX:=Lib.hid h6;clear h6
  go_wp2_with ((with_reducible refine wpList_store_st (o:=⟨none,.store 82 _ _,_,_,_,_⟩) rfl 82 _ _ rfl (w.heap.size+1) rfl rfl (run_storeAt_row _ (w.heap.size+1) 82 82 stO (stW (.slice aM l2.length cM) (.slice (some ⟨gP,0,none⟩) (K:Nat) cP) (.slice (some ⟨gR,0,none⟩) (K:Nat) cR) (gr:Int)) ?_ ?_ ?_ ?_) ?_);exact HX.out.res;exact infoSt7;rfl;exact st_one7 _ _ _ _ _ _ _ _ _ _)
  have hE:=bx_end HU.out.1 HU.out.2.1 HU.out.2.2 HX.out (stW (.slice aM l2.length cM) (.slice (some ⟨gP,0,none⟩) (K:Nat) cP) (.slice (some ⟨gR,0,none⟩) (K:Nat) cR) (gr:Int));exact bodyPost_ret (v:=.agg (stW (.slice aM l2.length cM) (.slice (some ⟨gP,0,none⟩) (K:Nat) cP) (.slice (some ⟨gR,0,none⟩) (K:Nat) cR) (gr:Int))) (results_cell_row rfl _ _ (w.heap.size+1) 82 (stW (.slice aM l2.length cM) (.slice (some ⟨gP,0,none⟩) (K:Nat) cP) (.slice (some ⟨gR,0,none⟩) (K:Nat) cR) (gr:Int)) (0,0) _ rfl (Blk.setRow HX.out.res) Tryz.underlying82 rfl infoSt7) rfl ⟨_,_,_,rfl,(by rw [HLL.out,HT.out];exact hE.1),hE.2⟩
 ·have hT:rowsT (r+1)=[⟨6,(r:Int)+1,0,0,0⟩]:=by unfold rowsT;rw [if_pos (by omega)];rfl
  have HT:Hid (l2++rowsT (r+1)=l2++[⟨6,(r:Int)+1,0,0,0⟩]):=Lib.hid (by rw [hT]);have qr:decide ((1:Int)<(r:Int)+1)=true:=by rw [decide_eq_true_iff];omega
  clear hT;obtain ⟨c0,c1,c2,c3⟩:=h2.c;obtain ⟨f0,f1,f2,f3⟩:=h2.f;obtain ⟨_,_,e,lP,kP,tP,yP⟩:=h2.sv.topPK HPQ.out.1
  cases e
  obtain ⟨_,_,e,lR,kR,tR,yR⟩:=h2.sv.topRK HPQ.out.2
  cases e
  have HX:=Lib.hid h2;clear h2
  go_upto_region 4 with fail
  have hBlt:=HX.out.blk.lt;have q2:(K:Int)<(K:Int)+1:=by omega
  go_region_law
   ((refine step_append_lies _ (by rfl) _ _ _ (by rfl) base 45 i0 _ 8 64 Tryz.underlying22 hi0 hz0 hz1 hz2 rfl (by omega) (.slice aM l2.length cM) l2.length (ndCells l2) (by rfl) ((HX.out.alloc _).drew).sv.nodes ⟨w3.heap.size,0,none⟩ 1 1 [.int .i64 6,.int .i64 ((r:Int)+1),.int .i64 0,.int .i64 0,.int .u64 0,.int .u64 0,.int .u64 0,.int .u64 0] (by rfl) (by rfl) (World.news_of_block (cs:=#[.int .i64 6,.int .i64 ((r:Int)+1),.int .i64 0,.int .i64 0,.int .u64 0,.int .u64 0,.int .u64 0,.int .u64 0]) (t:=45) (fr:=(0,0)) (heap_alloc_new w3 _)) (by simp [Value.oneCell']) (by omega) (by simp only [maxLen];omega) (by omega) (by have:=HX.out.sv.sz;have:=HX.out.sv.bs;simp;omega) (w3.heap.size+1) (by simp) ?_;intro g' cap' w4 hown hgrow hat hlt;have j0:w4.cell? ⟨w.heap.size,0,none⟩=some (.slice aM l2.length cM):=(((HX.out.alloc _).drew).blk.kept hgrow (fun e=>(HX.out.nB (HX.out.sv.aN _ e.symm)))).cell 0;have y0:w4.frozen? ⟨w.heap.size,0,none⟩=false:=(((HX.out.alloc _).drew).blk.kept hgrow (fun e=>(HX.out.nB (HX.out.sv.aN _ e.symm)))).frozen 0))
  all_goals
   have h4:=((HX.out.alloc _).drew).pushN (nd:=⟨6,(r:Int)+1,0,0,0⟩) (by rw [nd_zero7];exact hown) hgrow (hat.imp id fun e=>by rw [e];simp);clear HX hown hgrow hat hlt j0 y0 hBlt;clear c0 c1 c2 c3 f0 f1 f2 f3 lP kP tP yP lR kR tR yR;generalize w4.setCell ⟨w.heap.size,0,none⟩ (.slice (some ⟨g',0,none⟩) (l2.length+1:Nat) cap')=wq at*;obtain ⟨c0,c1,c2,c3⟩:=h4.c;obtain ⟨f0,f1,f2,f3⟩:=h4.f;obtain ⟨_,_,e,lP,kP,tP,yP⟩:=h4.sv.topPK HPQ.out.1
   cases e
   obtain ⟨_,_,e,lR,kR,tR,yR⟩:=h4.sv.topRK HPQ.out.2
   cases e
   have HX:=Lib.hid h4;clear h4;have qK:=kR;have qK2:=kP
   go_upto_region 6 with fail
   have h5:=HX.out.popRK HPQ.out.2;clear HX;clear c0 c1 c2 c3 f0 f1 f2 f3 lP kP tP yP lR kR tR yR;generalize wq.setCell ⟨w.heap.size,2,none⟩ (.slice (some ⟨gR,0,none⟩) (K:Nat) cR)=w5 at*;obtain ⟨c0,c1,c2,c3⟩:=h5.c;obtain ⟨f0,f1,f2,f3⟩:=h5.f;have HX:=Lib.hid h5;clear h5
   go_upto_region 7 with fail
   have h6:=HX.out.popPK HPQ.out.1;clear HX c0 c1 c2 c3 f0 f1 f2 f3;generalize w5.setCell ⟨w.heap.size,1,none⟩ (.slice (some ⟨gP,0,none⟩) (K:Nat) cP)=w6 at*;obtain ⟨c0,c1,c2,c3⟩:=h6.c;have HX:=Lib.hid h6;clear h6
   go_wp2_with ((with_reducible refine wpList_store_st (o:=⟨none,.store 82 _ _,_,_,_,_⟩) rfl 82 _ _ rfl (w.heap.size+1) rfl rfl (run_storeAt_row _ (w.heap.size+1) 82 82 stO (stW (.slice (some ⟨g',0,none⟩) (l2.length+1:Nat) cap') (.slice (some ⟨gP,0,none⟩) (K:Nat) cP) (.slice (some ⟨gR,0,none⟩) (K:Nat) cR) (gr:Int)) ?_ ?_ ?_ ?_) ?_);exact HX.out.res;exact infoSt7;rfl;exact st_one7 _ _ _ _ _ _ _ _ _ _)
   have hE:=bx_end HU.out.1 HU.out.2.1 HU.out.2.2 HX.out (stW (.slice (some ⟨g',0,none⟩) (l2.length+1:Nat) cap') (.slice (some ⟨gP,0,none⟩) (K:Nat) cP) (.slice (some ⟨gR,0,none⟩) (K:Nat) cR) (gr:Int));exact bodyPost_ret (v:=.agg (stW (.slice (some ⟨g',0,none⟩) (l2.length+1:Nat) cap') (.slice (some ⟨gP,0,none⟩) (K:Nat) cP) (.slice (some ⟨gR,0,none⟩) (K:Nat) cR) (gr:Int))) (results_cell_row rfl _ _ (w.heap.size+1) 82 (stW (.slice (some ⟨g',0,none⟩) (l2.length+1:Nat) cap') (.slice (some ⟨gP,0,none⟩) (K:Nat) cP) (.slice (some ⟨gR,0,none⟩) (K:Nat) cR) (gr:Int)) (0,0) _ rfl (Blk.setRow HX.out.res) Tryz.underlying82 rfl infoSt7) rfl ⟨_,_,_,rfl,(by rw [HLL.out,HT.out];exact hE.1),hE.2⟩
end Go.Proofs.YtbccojjcdcighaaGreatDoor

/- Texts put together: Hg Je. -/
import Derived.Test.YtbccojjcdcighaaGreatDoorQM
import Derived.Test.YtbccojjcdcighaaGreatDoorQAb
import Derived.Test.YtbccojjcdcighaaGreatDoorQC
import Derived.Test.YtbccojjcdcighaaGreatDoorQAg
import Derived.Lib.Hide
import Derived.Test.YtbccojjcdcighaaGreatDoorQAf
namespace Go.Proofs.YtbccojjcdcighaaGreatDoor
open Go.RowKit BS
@[reducible] def stW (vN vP vR:Value) (g:Int):Array Value:=#[vN,vP,vR,.int .i64 g]
@[reducible] def stO:Array Value:=#[.slice none 0 0,.slice none 0 0,.slice none 0 0,.int .i64 0]
theorem infoSt7:(Tryz.prog.info? 82).map (·.size)=some 4:=by kernel_rfl
def inC (l:List Nat):List Value:=l.map fun n=>.int .i64 (n:Nat)
theorem inC_app (l m:List Nat):inC (l++m)=inC l++inC m:=by simp [inC]
theorem inC_len (l:List Nat):(inC l).length=l.length:=by simp [inC]
theorem inC_last (l:List Nat) (n:Nat):(inC (l++[n]))[l.length]? =some (.int .i64 n):=by
 rw [inC_app,List.getElem?_append_right (by rw [inC_len];omega),inC_len,Nat.sub_self];rfl
theorem inC_set (l:List Nat) (n n':Nat):(inC (l++[n])).set l.length (.int .i64 n')=inC (l++[n']):=by
 rw [inC_app,inC_app,List.set_append_right _ _ (by rw [inC_len];omega),inC_len,Nat.sub_self];rfl
structure KpA (A:Nat→Prop) (w w':World):Prop where
 os:w'.os=w.os
 tape:w'.tape=w.tape
 output:w'.output=w.output
 size:w.heap.size≤w'.heap.size
 block:∀k,k<w.heap.size→¬A k→w'.heap[k]? =w.heap[k]?
theorem KpA.refl (A:Nat→Prop) (w:World):KpA A w w:=⟨rfl,rfl,rfl,Nat.le_refl _,fun _ _ _=>rfl⟩
theorem KpA.trans {A:Nat→Prop} {a b c:World} (h:KpA A a b) (k:KpA A b c):KpA A a c:=
 ⟨k.os.trans h.os,k.tape.trans h.tape,k.output.trans h.output,Nat.le_trans h.size k.size,fun i hi hA=>(k.block i (Nat.lt_of_lt_of_le hi h.size) hA).trans (h.block i hi hA)⟩
theorem KpA.below {A:Nat→Prop} {a b c:World} (h:KpA A a b) (k:Below b.heap.size b c):KpA A a c:=
 h.trans ⟨k.os,k.tape,k.output,k.size,fun i hi _=>k.block i hi⟩
theorem KpA.alloc {A:Nat→Prop} {a b:World} (h:KpA A a b) (o:Obj):KpA A a (b.alloc o):=h.below ((Below.refl _ _).alloc (Nat.le_refl _) o)
theorem KpA.drew {A:Nat→Prop} {a b:World} (h:KpA A a b):KpA A a b.drew:=⟨h.os,h.tape,h.output,h.size,h.block⟩
theorem KpA.set {A:Nat→Prop} {a b:World} (h:KpA A a b) {g:Nat} (hg:A g∨a.heap.size≤g) (x:Nat) (v:Value):KpA A a (b.setCell ⟨g,x,none⟩ v):=
 ⟨h.os,h.tape,h.output,by simpa using h.size,fun i hi hA=>(Below.heap_setCell b ⟨g,x,none⟩ v i (by show i≠g;rintro rfl;exact hg.elim hA (fun h1=>by omega))).trans (h.block i hi hA)⟩
theorem row_kept7 (W:World) (B:Nat) (cs:Array Value) (k:Nat) (h:k≠B):(W.setRow B cs).heap[k]? =W.heap[k]?:=by
 show (W.heap.modify B _)[k]? =_
 rw [Array.getElem?_modify,if_neg (Ne.symm h)]
theorem KpA.row {A:Nat→Prop} {a b:World} (h:KpA A a b) {g:Nat} (hg:A g∨a.heap.size≤g) (cs:Array Value):KpA A a (b.setRow g cs):=
 ⟨h.os,h.tape,h.output,by simpa [World.setRow] using h.size,fun i hi hA=>(row_kept7 b g cs i (by rintro rfl;exact hg.elim hA (fun h1=>by omega))).trans (h.block i hi hA)⟩
theorem KpA.grown {A:Nat→Prop} {a b c:World} {row:Option Nat} (h:KpA A a b) (hg:b.grownBy c row) (hr:∀k,row=some k→A k∨a.heap.size≤k):KpA A a c:=
 ⟨hg.os.trans h.os,hg.tape.trans h.tape,hg.output.trans h.output,Nat.le_trans h.size hg.size,fun i hi hA=>(hg.block i (Nat.lt_of_lt_of_le hi h.size) (fun e=>by exact (hr i e.symm).elim hA (fun h1=>by omega))).trans (h.block i hi hA)⟩
theorem KpA.mono {A A':Nat→Prop} {a b:World} (h:KpA A' a b) (hA:∀k,A' k→A k):KpA A a b:=⟨h.os,h.tape,h.output,h.size,fun i hi hn=>h.block i hi fun h'=>hn (hA i h')⟩
theorem Blk.kpA {A:Nat→Prop} {a b:World} {B:Nat} {vs:Array Value} {t:TypeId} (h:Blk a B vs t) (k:KpA A a b) (hB:¬A B):Blk b B vs t:=(k.block B h.lt hB).trans h
structure SV (base N:Nat) (A:Nat→Prop) (l:List NdN) (ps rs:List Nat) (vN vP vR:Value) (w:World):Prop where
 nodes:w.ownsRow base 45 8 vN l.length (ndCells l)
 pieces:w.ownsRow base 3 1 vP ps.length (inC ps)
 rows:w.ownsRow base 3 1 vR rs.length (inC rs)
 aN:∀k,vN.ownBlock=some k→A k
 aP:∀k,vP.ownBlock=some k→A k
 aR:∀k,vR.ownBlock=some k→A k
 up:∀k,N≤k→A k
 sz:N≤w.heap.size
 bs:base≤N
 nP:vN.ownBlock=none∨vN.ownBlock≠vP.ownBlock
 nR:vN.ownBlock=none∨vN.ownBlock≠vR.ownBlock
 pR:vP.ownBlock=none∨vP.ownBlock≠vR.ownBlock
theorem own_lt {w:World} {base:Nat} {e:TypeId} {size:Nat} {v:Value} {n:Nat} {xs:List Value} (h:w.ownsRow base e size v n xs) {g:Nat} (hg:v.ownBlock=some g):g<w.heap.size:=(h.lt g hg).2
theorem own_below {W W':World} {base:Nat} {e:TypeId} {size:Nat} {v:Value} {n:Nat} {xs:List Value} (h:W.ownsRow base e size v n xs) (hb:Below W.heap.size W W'):W'.ownsRow base e size v n xs:=
 owns_keep h fun _ hg=>hb.block _ (own_lt h hg)
section
variable {base N : Nat} {A : Nat → Prop} {l : List NdN} {ps rs : List Nat} {vN vP vR : Value} {w : World}
theorem SV.below (h:SV base N A l ps rs vN vP vR w) {w':World} (hb:Below w.heap.size w w'):SV base N A l ps rs vN vP vR w':=
 ⟨own_below h.nodes hb,own_below h.pieces hb,own_below h.rows hb,h.aN,h.aP,h.aR,h.up,Nat.le_trans h.sz hb.size,h.bs,h.nP,h.nR,h.pR⟩
theorem SV.alloc (h:SV base N A l ps rs vN vP vR w) (o:Obj):SV base N A l ps rs vN vP vR (w.alloc o):=h.below ((Below.refl _ _).alloc (Nat.le_refl _) o)
theorem SV.drew (h:SV base N A l ps rs vN vP vR w):SV base N A l ps rs vN vP vR w.drew:=⟨h.nodes,h.pieces,h.rows,h.aN,h.aP,h.aR,h.up,h.sz,h.bs,h.nP,h.nR,h.pR⟩
theorem SV.other (h:SV base N A l ps rs vN vP vR w) {w':World} (hz:w.heap.size≤w'.heap.size) (hk:∀k,A k→k<w.heap.size→w'.heap[k]? =w.heap[k]?):SV base N A l ps rs vN vP vR w':=
 ⟨owns_keep h.nodes fun k e=>hk k (h.aN k e) (own_lt h.nodes e),owns_keep h.pieces fun k e=>hk k (h.aP k e) (own_lt h.pieces e),owns_keep h.rows fun k e=>hk k (h.aR k e) (own_lt h.rows e),h.aN,h.aP,h.aR,h.up,Nat.le_trans h.sz hz,h.bs,h.nP,h.nR,h.pR⟩
theorem SV.set (h:SV base N A l ps rs vN vP vR w) {g:Nat} (hg:¬A g) (x:Nat) (v:Value):SV base N A l ps rs vN vP vR (w.setCell ⟨g,x,none⟩ v):=
 h.other (by simp) fun k hk _=>Below.heap_setCell _ _ _ _ (by show k≠g;rintro rfl;exact hg hk)
theorem SV.row (h:SV base N A l ps rs vN vP vR w) {g:Nat} (hg:¬A g) (cs:Array Value):SV base N A l ps rs vN vP vR (w.setRow g cs):=
 h.other (by simp [World.setRow]) fun k hk _=>row_kept7 _ _ _ _ (by rintro rfl;exact hg hk)
theorem SV.mono (h:SV base N A l ps rs vN vP vR w) {N':Nat} {A':Nat→Prop} (hN:base≤N') (hz:N'≤w.heap.size) (hA:∀k,A k→k<w.heap.size→A' k) (hup:∀k,N'≤k→A' k):SV base N' A' l ps rs vN vP vR w:=
 ⟨h.nodes,h.pieces,h.rows,fun k e=>hA k (h.aN k e) (own_lt h.nodes e),fun k e=>hA k (h.aP k e) (own_lt h.pieces e),fun k e=>hA k (h.aR k e) (own_lt h.rows e),hup,hz,hN,h.nP,h.nR,h.pR⟩
theorem SV.formN (h:SV base N A l ps rs vN vP vR w):∃a c,vN=.slice a l.length c:=owns_form h.nodes
theorem top_of {w:World} {base:Nat} {e:TypeId} {v:Value} {ps:List Nat} {n:Nat} (h:w.ownsRow base e 1 v (ps++[n]).length (inC (ps++[n]))):∃g cap,v=.slice (some ⟨g,0,none⟩) (ps.length+1:Nat) cap∧g<w.heap.size∧ps.length+1≤cap∧w.cell? ⟨g,ps.length,none⟩=some (.int .i64 n)∧w.frozen? ⟨g,ps.length,none⟩=false:=by
 rw [List.length_append,List.length_singleton] at h;obtain ⟨g,cap,rfl,hb,hlt⟩:=h.form (by omega);have hcap:ps.length+1≤cap:=by
  rcases h.2 with ⟨hv,_⟩|⟨g',cap',cur,hv,_,_,hc,_⟩
  ·cases hv
  ·cases hv;exact hc
 exact ⟨g,cap,rfl,hlt,hcap,by rw [h.cellAt _ (by omega)];exact inC_last ps n,h.frozenAt _⟩
theorem SV.topP {n:Nat} (h:SV base N A l (ps++[n]) rs vN vP vR w):∃g cap,vP=.slice (some ⟨g,0,none⟩) (ps.length+1:Nat) cap∧g<w.heap.size∧ps.length+1≤cap∧w.cell? ⟨g,ps.length,none⟩=some (.int .i64 n)∧w.frozen? ⟨g,ps.length,none⟩=false:=top_of h.pieces
theorem SV.topR {n:Nat} (h:SV base N A l ps (rs++[n]) vN vP vR w):∃g cap,vR=.slice (some ⟨g,0,none⟩) (rs.length+1:Nat) cap∧g<w.heap.size∧rs.length+1≤cap∧w.cell? ⟨g,rs.length,none⟩=some (.int .i64 n)∧w.frozen? ⟨g,rs.length,none⟩=false:=top_of h.rows
theorem stored_of {w:World} {base:Nat} {e:TypeId} {g cap:Nat} {ps:List Nat} {n:Nat} (h:w.ownsRow base e 1 (.slice (some ⟨g,0,none⟩) (ps.length+1:Nat) cap) (ps++[n]).length (inC (ps++[n]))) (n':Nat):(w.setCell ⟨g,ps.length,none⟩ (.int .i64 n')).ownsRow base e 1 (.slice (some ⟨g,0,none⟩) (ps.length+1:Nat) cap) (ps++[n']).length (inC (ps++[n'])):=by
 rw [List.length_append,List.length_singleton] at h ⊢;have:=(h.stored ps.length (.int .i64 n')).1;rw [inC_set] at this;exact this
theorem SV.setP {n g cap:Nat} (h:SV base N A l (ps++[n]) rs vN (.slice (some ⟨g,0,none⟩) (ps.length+1:Nat) cap) vR w) (n':Nat):SV base N A l (ps++[n']) rs vN (.slice (some ⟨g,0,none⟩) (ps.length+1:Nat) cap) vR (w.setCell ⟨g,ps.length,none⟩ (.int .i64 n')):=by
 refine ⟨owns_keep h.nodes fun k e=>Below.heap_setCell _ _ _ _ ?_,stored_of h.pieces n',owns_keep h.rows fun k e=>Below.heap_setCell _ _ _ _ ?_,h.aN,h.aP,h.aR,h.up,by simpa using h.sz,h.bs,h.nP,h.nR,h.pR⟩
 ·show k≠g
  rintro rfl;rcases h.nP with h1|h1
  ·rw [h1] at e;cases e
  ·exact h1 e
 ·show k≠g
  rintro rfl;rcases h.pR with h1|h1
  ·cases h1
  ·exact h1 e.symm
theorem SV.setR {n g cap:Nat} (h:SV base N A l ps (rs++[n]) vN vP (.slice (some ⟨g,0,none⟩) (rs.length+1:Nat) cap) w) (n':Nat):SV base N A l ps (rs++[n']) vN vP (.slice (some ⟨g,0,none⟩) (rs.length+1:Nat) cap) (w.setCell ⟨g,rs.length,none⟩ (.int .i64 n')):=by
 refine ⟨owns_keep h.nodes fun k e=>Below.heap_setCell _ _ _ _ ?_,owns_keep h.pieces fun k e=>Below.heap_setCell _ _ _ _ ?_,stored_of h.rows n',h.aN,h.aP,h.aR,h.up,by simpa using h.sz,h.bs,h.nP,h.nR,h.pR⟩
 ·show k≠g
  rintro rfl;rcases h.nR with h1|h1
  ·rw [h1] at e;cases e
  ·exact h1 e
 ·show k≠g
  rintro rfl;rcases h.pR with h1|h1
  ·rw [h1] at e;cases e
  ·exact h1 e
theorem apart_new {u v:Value} {w:World} {base:Nat} {e:TypeId} {size n:Nat} {xs:List Value} (hv:w.ownsRow base e size v n xs) {g:Nat} (hat:u.ownBlock=some g∨w.heap.size≤g) (h:u.ownBlock=none∨u.ownBlock≠v.ownBlock):v.ownBlock≠some g:=fun e=>by
 rcases hat with h1|h1
 ·rcases h with h2|h2
  ·rw [h2] at h1;cases h1
  ·exact h2 (h1.trans e.symm)
 ·have:=own_lt hv e;omega
theorem SV.pushN (h:SV base N A l ps rs vN vP vR w) {w1:World} {nd:NdN} {g cap:Nat} (hown:w1.ownsRow base 45 8 (.slice (some ⟨g,0,none⟩) (l.length+1:Nat) cap) (l.length+1) (ndCells l++(ndA nd).toList)) (hg:w.grownBy w1 vN.ownBlock) (hat:vN.ownBlock=some g∨w.heap.size≤g):
 SV base N A (l++[nd]) ps rs (.slice (some ⟨g,0,none⟩) (l.length+1:Nat) cap) vP vR w1:=by
 have hP:=apart_new h.pieces hat h.nP;have hR:=apart_new h.rows hat h.nR;refine ⟨?_,h.pieces.kept hg ?_,h.rows.kept hg ?_,fun k e=>?_,h.aP,h.aR,h.up,Nat.le_trans h.sz hg.size,h.bs,.inr fun e=>hP e.symm,.inr fun e=>hR e.symm,h.pR⟩
 ·rw [List.length_append,ndCells_app,show ndCells [nd]=(ndA nd).toList by simp [ndCells]];exact hown
 ·rcases h.nP with h1|h1
  ·rw [h1];cases hv:vP.ownBlock with
   |none=>exact .inl rfl
   |some k=>exact .inr (by simp)
  ·exact .inr (Ne.symm h1)
 ·rcases h.nR with h1|h1
  ·rw [h1];cases hv:vR.ownBlock with
   |none=>exact .inl rfl
   |some k=>exact .inr (by simp)
  ·exact .inr (Ne.symm h1)
 ·cases e
  rcases hat with h1|h1
  ·exact h.aN _ h1
  ·exact h.up _ (Nat.le_trans h.sz h1)
theorem SV.pushP (h:SV base N A l ps rs vN vP vR w) {w1:World} {n g cap:Nat} (hown:w1.ownsRow base 3 1 (.slice (some ⟨g,0,none⟩) (ps.length+1:Nat) cap) (ps.length+1) (inC ps++[.int .i64 n])) (hg:w.grownBy w1 vP.ownBlock) (hat:vP.ownBlock=some g∨w.heap.size≤g):
 SV base N A l (ps++[n]) rs vN (.slice (some ⟨g,0,none⟩) (ps.length+1:Nat) cap) vR w1:=by
 have hNg:vN.ownBlock≠some g:=fun e=>by
  rcases hat with h1|h1
  ·rcases h.nP with h2|h2
   ·rw [h2] at e;cases e
   ·exact h2 (e.trans h1.symm)
  ·have:=own_lt h.nodes e;omega
 have hR:=apart_new h.rows hat h.pR;refine ⟨h.nodes.kept hg ?_,?_,h.rows.kept hg ?_,h.aN,fun k e=>?_,h.aR,h.up,Nat.le_trans h.sz hg.size,h.bs,.inr hNg,h.nR,.inr fun e=>hR e.symm⟩
 ·rcases h.nP with h1|h1
  ·exact .inl h1
  ·exact .inr h1
 ·rw [List.length_append,inC_app];exact hown
 ·rcases h.pR with h1|h1
  ·rw [h1];cases hv:vR.ownBlock with
   |none=>exact .inl rfl
   |some k=>exact .inr (by simp)
  ·exact .inr (Ne.symm h1)
 ·cases e
  rcases hat with h1|h1
  ·exact h.aP _ h1
  ·exact h.up _ (Nat.le_trans h.sz h1)
theorem SV.pushR (h:SV base N A l ps rs vN vP vR w) {w1:World} {n g cap:Nat} (hown:w1.ownsRow base 3 1 (.slice (some ⟨g,0,none⟩) (rs.length+1:Nat) cap) (rs.length+1) (inC rs++[.int .i64 n])) (hg:w.grownBy w1 vR.ownBlock) (hat:vR.ownBlock=some g∨w.heap.size≤g):
 SV base N A l ps (rs++[n]) vN vP (.slice (some ⟨g,0,none⟩) (rs.length+1:Nat) cap) w1:=by
 have hNg:vN.ownBlock≠some g:=fun e=>by
  rcases hat with h1|h1
  ·rcases h.nR with h2|h2
   ·rw [h2] at e;cases e
   ·exact h2 (e.trans h1.symm)
  ·have:=own_lt h.nodes e;omega
 have hPg:vP.ownBlock≠some g:=fun e=>by
  rcases hat with h1|h1
  ·rcases h.pR with h2|h2
   ·rw [h2] at e;cases e
   ·exact h2 (e.trans h1.symm)
  ·have:=own_lt h.pieces e;omega
 refine ⟨h.nodes.kept hg ?_,h.pieces.kept hg ?_,?_,h.aN,h.aP,fun k e=>?_,h.up,Nat.le_trans h.sz hg.size,h.bs,h.nP,.inr hNg,.inr hPg⟩
 ·rcases h.nR with h1|h1
  ·exact .inl h1
  ·exact .inr h1
 ·rcases h.pR with h1|h1
  ·exact .inl h1
  ·exact .inr h1
 ·rw [List.length_append,inC_app];exact hown
 ·cases e
  rcases hat with h1|h1
  ·exact h.aR _ h1
  ·exact h.up _ (Nat.le_trans h.sz h1)
theorem cut_of {w:World} {base:Nat} {e:TypeId} {g cap:Nat} {ps:List Nat} {n:Nat} (h:w.ownsRow base e 1 (.slice (some ⟨g,0,none⟩) (ps.length+1:Nat) cap) (ps++[n]).length (inC (ps++[n]))):w.ownsRow base e 1 (.slice (some ⟨g,0,none⟩) (ps.length:Nat) cap) ps.length (inC ps):=by
 rw [List.length_append,List.length_singleton,inC_app] at h;obtain ⟨g',cap',e',h1,_,_,_,h6⟩:=owns_last h
 cases e'
 exact h6
theorem SV.popP {n g cap:Nat} (h:SV base N A l (ps++[n]) rs vN (.slice (some ⟨g,0,none⟩) (ps.length+1:Nat) cap) vR w):SV base N A l ps rs vN (.slice (some ⟨g,0,none⟩) (ps.length:Nat) cap) vR w:=
 ⟨h.nodes,cut_of h.pieces,h.rows,h.aN,h.aP,h.aR,h.up,h.sz,h.bs,h.nP,h.nR,h.pR⟩
theorem SV.popR {n g cap:Nat} (h:SV base N A l ps (rs++[n]) vN vP (.slice (some ⟨g,0,none⟩) (rs.length+1:Nat) cap) w):SV base N A l ps rs vN vP (.slice (some ⟨g,0,none⟩) (rs.length:Nat) cap) w:=
 ⟨h.nodes,h.pieces,cut_of h.rows,h.aN,h.aP,h.aR,h.up,h.sz,h.bs,h.nP,h.nR,h.pR⟩
end
end Go.Proofs.YtbccojjcdcighaaGreatDoor

namespace Go.Proofs.YtbccojjcdcighaaGreatDoor
open Go.RowKit BS
set_option maxRecDepth 100000 in
set_option maxHeartbeats 4000000 in
theorem ptake1 {base R:Nat} {s:ByteArray} {a n r:Nat} {l:List NdN} {st:List (Nat×Nat)} {gr:Nat} {vN vL:Value} {w0:World} (p f:Int) (t:BitVec 256) (n' m':Int) (w:World) (h:RdV base R s a ⟨l,(n,r)::st,gr⟩ vN vL w0 w) (hl:l.length≤3999990) (hst:st.length≤1999990) (hn:n≤2000000):
 Calls Tryz.prog 48 #[.pointer (some ⟨R,0,none⟩),.agg (woI 1 p f t n' m')] w fun e w'=>e=.returned (.int .i64 0)∧∃vN',RdV base R s a ⟨l++[⟨2,0,0,0,t⟩],(n+1,r)::st,gr⟩ vN' vL w0 w':=by
 have hB:=Blk.new w (woI 1 p f t n' m') 91;have hr:=h.alloc (.cells (woI 1 p f t n' m') 91);have hb0:Below w.heap.size w (w.alloc (.cells (woI 1 p f t n' m') 91)):=by go_grown
 clear h;go_enter Tryz.func48,Tryz.ntmps48
 go_upto_region 1 with fail
 generalize w.alloc (.cells (woI 1 p f t n' m') 91)=w1 at*;have HB0:=Lib.hid hb0;clear hb0;have HW:=Lib.hid (Eq.refl w.heap.size);clear HW;have c0:=hB.cell 0;have c3:=hB.cell 3;have c4:=hB.cell 4;have c5:=hB.cell 5;have c6:=hB.cell 6;have c7:=hB.cell 7;have c8:=hB.cell 8;simp only [List.getElem?_toArray,List.getElem?_cons_zero,List.getElem?_cons_succ] at c0 c3 c4 c5 c6 c7 c8;have HR:=Lib.hid hr;clear hr hB
 go_wp2_with fail
 refine (paddPiece_calls ⟨2,0,0,0,t⟩ _ HR.out (by omega) (by omega) hn).mono ?_;rintro e w2 ⟨rfl,vN',hr2⟩
 go_wp2_with fail
 go_ret;exact ⟨rfl,_,hr2⟩
set_option maxRecDepth 100000 in
set_option maxHeartbeats 4000000 in
theorem ptake2_9 {base R:Nat} {s:ByteArray} {a n r:Nat} {l:List NdN} {st:List (Nat×Nat)} {vN vL:Value} {w0:World} (p f:Int) (t:BitVec 256) (n' m':Int) (w:World) (h:RdV base R s a ⟨l,(n,r)::st,9⟩ vN vL w0 w):
 Calls Tryz.prog 48 #[.pointer (some ⟨R,0,none⟩),.agg (woI 2 p f t n' m')] w fun e w'=>e=.returned (.int .i64 9)∧Below w.heap.size w w':=by
 have hB:=Blk.new w (woI 2 p f t n' m') 91;have hr:=h.alloc (.cells (woI 2 p f t n' m') 91);have hb0:Below w.heap.size w (w.alloc (.cells (woI 2 p f t n' m') 91)):=by go_grown
 clear h;go_enter Tryz.func48,Tryz.ntmps48
 go_upto_region 1 with fail
 generalize w.alloc (.cells (woI 2 p f t n' m') 91)=w1 at*;have HB0:=Lib.hid hb0;clear hb0;have HW:=Lib.hid (Eq.refl w.heap.size);clear HW;have c0:=hB.cell 0;have c3:=hB.cell 3;have c4:=hB.cell 4;have c5:=hB.cell 5;have c6:=hB.cell 6;have c7:=hB.cell 7;have c8:=hB.cell 8;simp only [List.getElem?_toArray,List.getElem?_cons_zero,List.getElem?_cons_succ] at c0 c3 c4 c5 c6 c7 c8;have HR:=Lib.hid hr;have cg:=hr.c.2.2.2.2;clear hr hB
 go_wp2_with fail
 refine (popenGroup9_calls _ cg).mono ?_;rintro e w2 ⟨rfl,rfl⟩
 go_wp2_with fail
 go_ret;exact ⟨rfl,HB0.out⟩
set_option maxRecDepth 100000 in
set_option maxHeartbeats 4000000 in
theorem ptake2 {base R:Nat} {s:ByteArray} {a n r:Nat} {l:List NdN} {st:List (Nat×Nat)} {gr:Nat} {vN vL:Value} {w0:World} (p f:Int) (t:BitVec 256) (n' m':Int) (w:World) (h:RdV base R s a ⟨l,(n,r)::st,gr⟩ vN vL w0 w) (hst:st.length≤1999990) (hg:gr<9):
 Calls Tryz.prog 48 #[.pointer (some ⟨R,0,none⟩),.agg (woI 2 p f t n' m')] w fun e w'=>e=.returned (.int .i64 0)∧∃vL',RdV base R s a ⟨l,(0,0)::(n,r)::st,gr+1⟩ vN vL' w0 w':=by
 have hB:=Blk.new w (woI 2 p f t n' m') 91;have hr:=h.alloc (.cells (woI 2 p f t n' m') 91);have hb0:Below w.heap.size w (w.alloc (.cells (woI 2 p f t n' m') 91)):=by go_grown
 clear h;go_enter Tryz.func48,Tryz.ntmps48
 go_upto_region 1 with fail
 generalize w.alloc (.cells (woI 2 p f t n' m') 91)=w1 at*;have HB0:=Lib.hid hb0;clear hb0;have HW:=Lib.hid (Eq.refl w.heap.size);clear HW;have c0:=hB.cell 0;have c3:=hB.cell 3;have c4:=hB.cell 4;have c5:=hB.cell 5;have c6:=hB.cell 6;have c7:=hB.cell 7;have c8:=hB.cell 8;simp only [List.getElem?_toArray,List.getElem?_cons_zero,List.getElem?_cons_succ] at c0 c3 c4 c5 c6 c7 c8;have HR:=Lib.hid hr;clear hr hB
 go_wp2_with fail
 refine (popenGroup_calls _ HR.out (by simp only [List.length_cons];omega) hg).mono ?_;rintro e w2 ⟨rfl,vL',hr2⟩
 go_wp2_with fail
 go_ret;exact ⟨rfl,_,hr2⟩
set_option maxRecDepth 100000 in
set_option maxHeartbeats 4000000 in
theorem ptake3_8 {base R:Nat} {s:ByteArray} {a n r:Nat} {l:List NdN} {gr:Nat} {vN vL:Value} {w0:World} (p f:Int) (t:BitVec 256) (n' m':Int) (w:World) (h:RdV base R s a ⟨l,[(n,r)],gr⟩ vN vL w0 w):
 Calls Tryz.prog 48 #[.pointer (some ⟨R,0,none⟩),.agg (woI 3 p f t n' m')] w fun e w'=>e=.returned (.int .i64 8)∧Below w.heap.size w w':=by
 have hB:=Blk.new w (woI 3 p f t n' m') 91;have hr:=h.alloc (.cells (woI 3 p f t n' m') 91);have hb0:Below w.heap.size w (w.alloc (.cells (woI 3 p f t n' m') 91)):=by go_grown
 clear h;go_enter Tryz.func48,Tryz.ntmps48
 go_upto_region 1 with fail
 generalize w.alloc (.cells (woI 3 p f t n' m') 91)=w1 at*;have HB0:=Lib.hid hb0;clear hb0;have HW:=Lib.hid (Eq.refl w.heap.size);clear HW;have c0:=hB.cell 0;have c3:=hB.cell 3;have c4:=hB.cell 4;have c5:=hB.cell 5;have c6:=hB.cell 6;have c7:=hB.cell 7;have c8:=hB.cell 8;simp only [List.getElem?_toArray,List.getElem?_cons_zero,List.getElem?_cons_succ] at c0 c3 c4 c5 c6 c7 c8;have HR:=Lib.hid hr;obtain ⟨g,cap,rfl,_⟩:=hr.top rfl;have cl:=hr.c.2.2.2.1;clear hr hB
 go_wp2_with fail
 refine (pshutGroup8_calls _ cap _ cl).mono ?_;rintro e w2 ⟨rfl,rfl⟩
 go_wp2_with fail
 go_ret;exact ⟨rfl,HB0.out⟩
set_option maxRecDepth 100000 in
set_option maxHeartbeats 4000000 in
theorem ptake3 {base R:Nat} {s:ByteArray} {a n r:Nat} {l:List NdN} {st:List (Nat×Nat)} {gr:Nat} {vN vL:Value} {w0:World} (p f:Int) (t:BitVec 256) (n' m':Int) (w:World) {n2 r2:Nat} (h:RdV base R s a ⟨l,(n,r)::(n2,r2)::st,gr⟩ vN vL w0 w) (hl:l.length≤3999990) (hst:st.length≤1999990) (hn:n≤2000000) (hr':r≤2000000) (hn2:n2≤2000000):
 Calls Tryz.prog 48 #[.pointer (some ⟨R,0,none⟩),.agg (woI 3 p f t n' m')] w fun e w'=>e=.returned (.int .i64 0)∧∃vN' vL',RdV base R s a ⟨l++rowT n++rowsT (r+1)++[ndG],(n2+1,r2)::st,gr⟩ vN' vL' w0 w':=by
 have hB:=Blk.new w (woI 3 p f t n' m') 91;have hr:=h.alloc (.cells (woI 3 p f t n' m') 91);have hb0:Below w.heap.size w (w.alloc (.cells (woI 3 p f t n' m') 91)):=by go_grown
 clear h;go_enter Tryz.func48,Tryz.ntmps48
 go_upto_region 1 with fail
 generalize w.alloc (.cells (woI 3 p f t n' m') 91)=w1 at*;have HB0:=Lib.hid hb0;clear hb0;have HW:=Lib.hid (Eq.refl w.heap.size);clear HW;have c0:=hB.cell 0;have c3:=hB.cell 3;have c4:=hB.cell 4;have c5:=hB.cell 5;have c6:=hB.cell 6;have c7:=hB.cell 7;have c8:=hB.cell 8;simp only [List.getElem?_toArray,List.getElem?_cons_zero,List.getElem?_cons_succ] at c0 c3 c4 c5 c6 c7 c8;have HR:=Lib.hid hr;clear hr hB
 go_wp2_with fail
 refine (pshutGroup_calls _ HR.out hl hst hn hr' hn2).mono ?_;rintro e w2 ⟨rfl,vN',vL',hr2⟩
 go_wp2_with fail
 go_ret;exact ⟨rfl,_,_,hr2⟩
set_option maxRecDepth 100000 in
set_option maxHeartbeats 4000000 in
theorem ptake4 {base R:Nat} {s:ByteArray} {a n r:Nat} {l:List NdN} {st:List (Nat×Nat)} {gr:Nat} {vN vL:Value} {w0:World} (p f:Int) (t:BitVec 256) (n' m':Int) (w:World) (h:RdV base R s a ⟨l,(n,r)::st,gr⟩ vN vL w0 w) (hl:l.length≤3999990) (hst:st.length≤1999990) (hn:n≤2000000) (hr':r≤2000000):
 Calls Tryz.prog 48 #[.pointer (some ⟨R,0,none⟩),.agg (woI 4 p f t n' m')] w fun e w'=>e=.returned (.int .i64 0)∧∃vN',RdV base R s a ⟨l++rowT n,(0,r+1)::st,gr⟩ vN' vL w0 w':=by
 have hB:=Blk.new w (woI 4 p f t n' m') 91;have hr:=h.alloc (.cells (woI 4 p f t n' m') 91);have hb0:Below w.heap.size w (w.alloc (.cells (woI 4 p f t n' m') 91)):=by go_grown
 clear h;go_enter Tryz.func48,Tryz.ntmps48
 go_upto_region 1 with fail
 generalize w.alloc (.cells (woI 4 p f t n' m') 91)=w1 at*;have HB0:=Lib.hid hb0;clear hb0;have HW:=Lib.hid (Eq.refl w.heap.size);clear HW;have c0:=hB.cell 0;have c3:=hB.cell 3;have c4:=hB.cell 4;have c5:=hB.cell 5;have c6:=hB.cell 6;have c7:=hB.cell 7;have c8:=hB.cell 8;simp only [List.getElem?_toArray,List.getElem?_cons_zero,List.getElem?_cons_succ] at c0 c3 c4 c5 c6 c7 c8;have HR:=Lib.hid hr;clear hr hB
 go_wp2_with fail
 refine (pendRow_calls _ HR.out (by omega) (by omega) hn hr').mono ?_;rintro e w2 ⟨rfl,vN',hr2⟩
 go_wp2_with fail
 go_ret;exact ⟨rfl,_,hr2⟩
set_option maxRecDepth 100000 in
set_option maxHeartbeats 4000000 in
theorem ptake5 {base R:Nat} {s:ByteArray} {a n r:Nat} {l:List NdN} {st:List (Nat×Nat)} {gr:Nat} {vN vL:Value} {w0:World} (p f:Int) (t:BitVec 256) (n' m':Int) (w:World) (h:RdV base R s a ⟨l,(n,r)::st,gr⟩ vN vL w0 w) (hl:l.length≤3999990):
 Calls Tryz.prog 48 #[.pointer (some ⟨R,0,none⟩),.agg (woI 5 p f t n' m')] w fun e w'=>e=.returned (.int .i64 0)∧∃vN',RdV base R s a ⟨l++[⟨4,1,n',m',0⟩],(n,r)::st,gr⟩ vN' vL w0 w':=by
 have hB:=Blk.new w (woI 5 p f t n' m') 91;have hr:=h.alloc (.cells (woI 5 p f t n' m') 91);have hb0:Below w.heap.size w (w.alloc (.cells (woI 5 p f t n' m') 91)):=by go_grown
 clear h;have hA:=fun W (h:RdV base R s a ⟨l,(n,r)::st,gr⟩ vN vL w0 W)=>padd_calls ⟨4,1,n',m',0⟩ W h (by simp only;omega)
 rw [nd_zero] at hA;have HA:=Lib.hid hA;clear hA;go_enter Tryz.func48,Tryz.ntmps48
 go_upto_region 1 with fail
 generalize w.alloc (.cells (woI 5 p f t n' m') 91)=w1 at*;have HB0:=Lib.hid hb0;clear hb0;have HW:=Lib.hid (Eq.refl w.heap.size);clear HW;have c0:=hB.cell 0;have c3:=hB.cell 3;have c4:=hB.cell 4;have c5:=hB.cell 5;have c6:=hB.cell 6;have c7:=hB.cell 7;have c8:=hB.cell 8;simp only [List.getElem?_toArray,List.getElem?_cons_zero,List.getElem?_cons_succ] at c0 c3 c4 c5 c6 c7 c8;have HR:=Lib.hid hr;clear hr hB
 go_wp2_with fail
 refine (HA.out _ HR.out).mono ?_;rintro e w2 ⟨rfl,vN',hr2⟩
 go_wp2_with fail
 go_ret;exact ⟨rfl,_,hr2⟩
end Go.Proofs.YtbccojjcdcighaaGreatDoor

/- Texts put together: Cp Co Cn Cr Gp Gq Gr. -/
import Derived.Test.YtbccojjcdcighaaGreatDoorQR
import Derived.Test.YtbccojjcdcighaaGreatDoorQV
import Derived.Test.YtbccojjcdcighaaGreatDoorQX
import Derived.Test.YtbccojjcdcighaaGreatDoorQB
import Derived.Laws.ResultCell
import Derived.Deep.WholeRow
import Derived.Test.YtbccojjcdcighaaGreatDoorQC
import Derived.Laws.Rows
import Derived.Laws.Tables
namespace Go.Proofs.YtbccojjcdcighaaGreatDoor
open Go.RowKit BS
theorem find_at {α:Type} (p:α→Bool):∀(L:List α) (k:Nat) (hk:k<L.length),(∀j (hj:j<k),p (L[j]'(Nat.lt_trans hj hk))=false)→p L[k]=true→L.find? p=some L[k]
 |[],k,hk,_,_=>by simp at hk
 |a::L,0,_,_,h=>by simp [List.find?,show p a=true from h]
 |a::L,k+1,hk,hf,h=>by
  have h0:p a=false:=hf 0 (by omega);simp only [List.find?,h0];exact find_at p L k (by simpa using hk) (fun j hj=>hf (j+1) (by omega)) h
theorem find_not {α:Type} (p:α→Bool) (L:List α) (h:∀j (hj:j<L.length),p L[j]=false):L.find? p=none:=by
 rw [List.find?_eq_none];intro x hx;obtain ⟨j,hj,rfl⟩:=List.getElem_of_mem hx
 simp [h j hj]
def fnd (l:List UInt8):Option (ByteArray×BitVec 256):=tabL.find? fun e=>e.1.toList==l
def ofS (l:List UInt8):BitVec 256:=((fnd l).map (·.2)).getD 0
def ofB (l:List UInt8):Bool:=(fnd l).isSome
theorem tabL_len:tabL.length=12:=rfl
def tE (k:Nat):ByteArray×BitVec 256:=tabL.getD k (⟨#[]⟩,0)
theorem tE_eq (k:Nat) (h:k<12):tE k=tabL[k]:=by
 unfold tE;rw [List.getD_eq_getElem?_getD,List.getElem?_eq_getElem (by rw [tabL_len];exact h)];rfl
theorem fnd_at (l:List UInt8) (k:Nat) (hk:k<12) (hf:∀j,j<k→(tE j).1.toList≠l) (h:(tE k).1.toList=l):fnd l=some (tE k):=by
 rw [tE_eq k hk];refine find_at _ tabL k hk (fun j hj=>?_) ?_
 ·have:=hf j hj
  rw [tE_eq j (by omega)] at this;exact beq_eq_false_iff_ne.2 this
 ·rw [tE_eq k hk] at h
  exact beq_iff_eq.2 h
theorem fnd_not (l:List UInt8) (hf:∀j,j<12→(tE j).1.toList≠l):fnd l=none:=by
 refine find_not _ tabL fun j hj=>?_
 have:=hf j hj;rw [tE_eq j hj] at this;exact beq_eq_false_iff_ne.2 this
theorem ofS_at (l:List UInt8) (k:Nat) (hk:k<12) (hf:∀j,j<k→(tE j).1.toList≠l) (h:(tE k).1.toList=l):ofS l=(tE k).2:=by rw [ofS,fnd_at l k hk hf h];rfl
theorem ofB_at (l:List UInt8) (k:Nat) (hk:k<12) (hf:∀j,j<k→(tE j).1.toList≠l) (h:(tE k).1.toList=l):ofB l=true:=by rw [ofB,fnd_at l k hk hf h];rfl
theorem ofS_not (l:List UInt8) (hf:∀j,j<12→(tE j).1.toList≠l):ofS l=0:=by rw [ofS,fnd_not l hf];rfl
theorem ofB_not (l:List UInt8) (hf:∀j,j<12→(tE j).1.toList≠l):ofB l=false:=by rw [ofB,fnd_not l hf];rfl
def isS (l:List UInt8):BitVec 256:=ofFn fun j=>isC l (j:Int)
theorem isS_tab:∀k,k<12→isS (tE k).1.toList=(tE k).2
 |0,_=>by decide +kernel
 |1,_=>by decide +kernel
 |2,_=>by decide +kernel
 |3,_=>by decide +kernel
 |4,_=>by decide +kernel
 |5,_=>by decide +kernel
 |6,_=>by decide +kernel
 |7,_=>by decide +kernel
 |8,_=>by decide +kernel
 |9,_=>by decide +kernel
 |10,_=>by decide +kernel
 |11,_=>by decide +kernel
 |n+12,h=>by omega
theorem isS_of (l:List UInt8) (k:Nat) (hk:k<12) (h:(tE k).1.toList=l):isS l=(tE k).2:=by rw [←h];exact isS_tab k hk
theorem tab_index:∀k,k<12→∀w,(Instr.index 236 (.agg tabV) (.int .i64 (k:Nat))).run Tryz.prog w=.ok (.agg #[.string (tE k).1,.int .u64 (wd (tE k).2 0),.int .u64 (wd (tE k).2 1),.int .u64 (wd (tE k).2 2),.int .u64 (wd (tE k).2 3)]) w
 |0,_,w=>by kernel_rfl
 |1,_,w=>by kernel_rfl
 |2,_,w=>by kernel_rfl
 |3,_,w=>by kernel_rfl
 |4,_,w=>by kernel_rfl
 |5,_,w=>by kernel_rfl
 |6,_,w=>by kernel_rfl
 |7,_,w=>by kernel_rfl
 |8,_,w=>by kernel_rfl
 |9,_,w=>by kernel_rfl
 |10,_,w=>by kernel_rfl
 |11,_,w=>by kernel_rfl
 |n+12,h,_=>by omega
end Go.Proofs.YtbccojjcdcighaaGreatDoor

namespace Go.Proofs.YtbccojjcdcighaaGreatDoor
open Go.RowKit Go.Shelf BS
theorem ret_bool' {a b:Bool} (h:a=b):Ending.returned (.bool a)=.returned (.bool b):=by rw [h]
set_option maxRecDepth 100000 in
set_option maxHeartbeats 2000000 in
theorem cOf_calls (name:ByteArray) (w:World):Calls Tryz.prog 202 #[.string name] w fun e w'=>e=.returned (.tuple #[setV (ofS name.toList),.bool (ofB name.toList)])∧Below w.heap.size w w':=by
 have b0:=Blk.new w (setA 0) 43;have hB0:Below w.heap.size w (w.alloc (.cells (setA 0) 43)):=by go_grown
 go_enter Tryz.func202,Tryz.ntmps202
 go_wp2_with fail
 refine (table_calls _).mono ?_;rintro e w1 ⟨rfl,hb1⟩;replace b0:=b0.below hb1 (by simp);replace hB0:=hB0.trans (hb1.mono (by simp));clear hb1
 go_wp2_with fail
 go_loopw [7] (fun i wr=>∃k:Nat,k≤12∧i=.int .i64 k∧(∀j,j<k→(tE j).1.toList≠name.toList)∧Blk wr w.heap.size (setA 0) 43∧Below w.heap.size w wr) (fun i _=>12 - (intOf i).toNat)
 case atStart=>exact ⟨0,by omega,rfl,fun j hj=>by omega,b0,hB0⟩
 case round=>
  clear b0 hB0;obtain ⟨k,hk,rfl,hno,hb,hB⟩:=hrel;have HN:=Lib.hid hno;clear hno
  by_cases hkl:k<12
  ·have hix:=tab_index k hkl
   by_cases hq:(tE k).1.toList=name.toList
   ·have HS:=Lib.hid (ofS_at name.toList k hkl HN.out hq)
    have HO:=Lib.hid (ofB_at name.toList k hkl HN.out hq);have hqb:((tE k).1.toList==name.toList)=true:=beq_iff_eq.2 hq;clear hq;generalize (tE k).1=nm at*;generalize (tE k).2=st at*;obtain ⟨⟨c0,c1,c2,c3⟩,f0,f1,f2,f3⟩:=hb.cells4;have hlt:=hb.lt;have hne:w.heap.size≠wr.heap.size:=by omega
    go_wp2
    obtain ⟨hR,hBB⟩:=fin4 hb hB (Nat.le_refl _) st;replace hR:=hR.alloc (.cells #[.string nm,.int .u64 (wd st 0),.int .u64 (wd st 1),.int .u64 (wd st 2),.int .u64 (wd st 3)] 235);replace hBB:=hBB.alloc (by simp;omega) (.cells #[.string nm,.int .u64 (wd st 0),.int .u64 (wd st 1),.int .u64 (wd st 2),.int .u64 (wd st 3)] 235);clear c0 c1 c2 c3 f0 f1 f2 f3 hb hB hix hqb;generalize (((((wr.setCell ⟨w.heap.size,0,none⟩ (.int .u64 (wd st 0))).setCell ⟨w.heap.size,1,none⟩ (.int .u64 (wd st 1))).setCell ⟨w.heap.size,2,none⟩ (.int .u64 (wd st 2))).setCell ⟨w.heap.size,3,none⟩ (.int .u64 (wd st 3))).alloc (.cells #[.string nm,.int .u64 (wd st 0),.int .u64 (wd st 1),.int .u64 (wd st 2),.int .u64 (wd st 3)] 235))=W4 at*;obtain ⟨⟨e0,e1,e2,e3⟩,_⟩:=hR.cells4;exact bodyPost_ret (v:=.tuple #[setV st,.bool true]) (by simp [results,Tryz.results202,go_sem,e0,e1,e2,e3]) rfl ⟨by rw [HS.out,HO.out],hBB⟩
   ·have hqb:((tE k).1.toList==name.toList)=false:=beq_eq_false_iff_ne.2 hq
    have HQ:=Lib.hid hq;clear hq;generalize hnm:(tE k).1=nm at hqb hix;generalize (tE k).2=st at*;have HNM:=Lib.hid hnm;clear hnm
    go_wp2
    go_roundw
    case rel=>
     refine ⟨k+1,by omega,by simp,fun j hj=>?_,hb.alloc _,hB.alloc hB.size _⟩
     by_cases hjk:j=k
     ·subst hjk;exact HQ.out
     ·exact HN.out j (by omega)
    case measure=>simp [intOf];omega
  ·obtain rfl:k=12:=by omega
   obtain ⟨⟨c0,c1,c2,c3⟩,f0,f1,f2,f3⟩:=hb.cells4
   go_wp2
   obtain ⟨hR,hBB⟩:=fin4 hb hB (Nat.le_refl _) 0;have e9:((((wr.setCell ⟨w.heap.size,0,none⟩ (.int .u64 0)).setCell ⟨w.heap.size,1,none⟩ (.int .u64 0)).setCell ⟨w.heap.size,2,none⟩ (.int .u64 0)).setCell ⟨w.heap.size,3,none⟩ (.int .u64 0))=((((wr.setCell ⟨w.heap.size,0,none⟩ (.int .u64 (wd 0 0))).setCell ⟨w.heap.size,1,none⟩ (.int .u64 (wd 0 1))).setCell ⟨w.heap.size,2,none⟩ (.int .u64 (wd 0 2))).setCell ⟨w.heap.size,3,none⟩ (.int .u64 (wd 0 3))):=rfl;rw [e9];clear e9 c0 c1 c2 c3 f0 f1 f2 f3 hb hB;generalize ((((wr.setCell ⟨w.heap.size,0,none⟩ (.int .u64 (wd 0 0))).setCell ⟨w.heap.size,1,none⟩ (.int .u64 (wd 0 1))).setCell ⟨w.heap.size,2,none⟩ (.int .u64 (wd 0 2))).setCell ⟨w.heap.size,3,none⟩ (.int .u64 (wd 0 3)))=W4 at*;obtain ⟨⟨e0,e1,e2,e3⟩,_⟩:=hR.cells4;exact bodyPost_ret (v:=.tuple #[setV 0,.bool false]) (by simp [results,Tryz.results202,go_sem,e0,e1,e2,e3]) rfl ⟨by rw [ofS_not _ HN.out,ofB_not _ HN.out],hBB⟩
def pfx (nm s:ByteArray):Bool:=decide (s.size≤nm.size) && ((nm.extract 0 s.size).toList==s.toList)
def begB (l:ByteArray):Bool:=tabL.any fun e=>pfx e.1 l
theorem begB_at (l:ByteArray) (k:Nat) (hk:k<12) (h:pfx (tE k).1 l=true):begB l=true:=by
 unfold begB;rw [List.any_eq_true];exact ⟨tabL[k],List.getElem_mem _,by rw [←tE_eq k hk];exact h⟩
theorem begB_not (l:ByteArray) (hf:∀j,j<12→pfx (tE j).1 l=false):begB l=false:=by
 unfold begB;rw [List.any_eq_false];intro x hx;obtain ⟨j,hj,rfl⟩:=List.getElem_of_mem hx;rw [←tE_eq j hj,hf j hj]
 simp
set_option maxHeartbeats 1000000 in
theorem hp1_calls (s p:ByteArray) (_hs:s.size≤9223372036854775807) (_hp:p.size≤9223372036854775807) (w:World):Calls Tryz.prog 209 #[.string s,.string p] w fun e w'=>e=.returned (.bool (pfx s p))∧w=w':=by
 by_cases hl:p.size≤s.size
 ·have h1:decide (p.size≤s.size)=true:=by simpa using hl
  go_enter Tryz.func209,Tryz.ntmps209
  go_wp2
  go_ret;exact ⟨ret_bool' (by simp only [pfx,h1,Bool.true_and]),rfl⟩
 ·have h1:decide (p.size≤s.size)=false:=by simpa using hl
  go_enter Tryz.func209,Tryz.ntmps209
  go_wp2
  go_ret;exact ⟨ret_bool' (by simp only [pfx,h1,Bool.false_and]),rfl⟩
set_option maxHeartbeats 1000000 in
theorem hp_calls (s p:ByteArray) (hs:s.size≤9223372036854775807) (hp:p.size≤9223372036854775807) (w:World):Calls Tryz.prog 206 #[.string s,.string p] w fun e w'=>e=.returned (.bool (pfx s p))∧w=w':=by
 go_enter Tryz.func206,Tryz.ntmps206
 go_wp2_with (go_at_call 209;refine (hp1_calls s p hs hp _).mono ?_;rintro e w' ⟨rfl,rfl⟩)
 go_ret;exact ⟨rfl,rfl⟩
theorem tE_size (k:Nat) (hk:k<12):(tE k).1.size≤9223372036854775807:=by
 have h:∀j,j<12→decide ((tE j).1.size≤9223372036854775807)=true:=by decide +kernel
 simpa using h k hk
set_option maxRecDepth 100000 in
set_option maxHeartbeats 2000000 in
theorem cBegins_calls (s:ByteArray) (hs:s.size≤9223372036854775807) (w:World):Calls Tryz.prog 201 #[.string s] w fun e w'=>e=.returned (.bool (begB s))∧Below w.heap.size w w':=by
 go_enter Tryz.func201,Tryz.ntmps201
 go_wp2_with fail
 refine (table_calls _).mono ?_;rintro e w1 ⟨rfl,hb1⟩
 go_wp2_with fail
 go_loopw [6] (fun i wr=>∃k:Nat,k≤12∧i=.int .i64 k∧(∀j,j<k→pfx (tE j).1 s=false)∧Below w.heap.size w wr) (fun i _=>12 - (intOf i).toNat)
 case atStart=>exact ⟨0,by omega,rfl,fun j hj=>by omega,hb1⟩
 case round=>
  clear hb1;obtain ⟨k,hk,rfl,hno,hB⟩:=hrel;have HN:=Lib.hid hno;clear hno
  by_cases hkl:k<12
  ·have hix:=tab_index k hkl
   have hnz:=tE_size k hkl
   cases hq:pfx (tE k).1 s with
   |true=>
    have HS:=Lib.hid (begB_at s k hkl hq);have HQ:=Lib.hid hq;clear hq;generalize (tE k).1=nm at*;generalize (tE k).2=st at*
    go_wp2_with (go_at_call 206;refine (hp_calls nm s hnz hs _).mono ?_;rintro e w' ⟨rfl,rfl⟩;rw [HQ.out])
    go_ret;exact ⟨by rw [HS.out];rfl,hB.alloc hB.size _⟩
   |false=>
    have HQ:=Lib.hid hq;clear hq;generalize hnm:(tE k).1=nm at hix hnz;generalize (tE k).2=st at*;have HNM:=Lib.hid hnm;clear hnm
    go_wp2_with (go_at_call 206;refine (hp_calls nm s hnz hs _).mono ?_;rintro e w' ⟨rfl,rfl⟩;rw [←HNM.out,HQ.out])
    go_roundw
    case rel=>
     refine ⟨k+1,by omega,by simp,fun j hj=>?_,hB.alloc hB.size _⟩
     by_cases hjk:j=k
     ·subst hjk;exact HQ.out
     ·exact HN.out j (by omega)
    case measure=>simp [intOf];omega
  ·obtain rfl:k=12:=by omega
   go_wp2
   go_ret;exact ⟨by rw [begB_not _ HN.out];rfl,hB⟩
set_option maxHeartbeats 1000000 in
theorem cAny_calls (w:World):Calls Tryz.prog 76 #[] w fun e w'=>e=.returned (setV (~~~(0:BitVec 256)))∧Below w.heap.size w w':=by
 have b0:=Blk.new w (setA 0) 43;have hB0:Below w.heap.size w (w.alloc (.cells (setA 0) 43)):=by go_grown
 go_enter Tryz.func76,Tryz.ntmps76
 go_wp2_with fail
 refine (not_calls 0 _).mono ?_;rintro e w1 ⟨rfl,hb1⟩;replace b0:=b0.below hb1 (by simp);replace hB0:=hB0.trans (hb1.mono (by simp));clear hb1;obtain ⟨⟨c0,c1,c2,c3⟩,f0,f1,f2,f3⟩:=b0.cells4;generalize ht:(~~~(0:BitVec 256))=t at*;have HT:=Lib.hid ht;clear ht
 go_wp2
 obtain ⟨hR,hBB⟩:=fin4 b0 hB0 (Nat.le_refl _) t;clear c0 c1 c2 c3 f0 f1 f2 f3 b0 hB0;generalize ((((w1.setCell ⟨w.heap.size,0,none⟩ (.int .u64 (wd t 0))).setCell ⟨w.heap.size,1,none⟩ (.int .u64 (wd t 1))).setCell ⟨w.heap.size,2,none⟩ (.int .u64 (wd t 2))).setCell ⟨w.heap.size,3,none⟩ (.int .u64 (wd t 3)))=W4 at*;obtain ⟨⟨e0,e1,e2,e3⟩,_⟩:=hR.cells4;exact bodyPost_ret (v:=setV t) (by simp [results,Tryz.results76,go_sem,e0,e1,e2,e3]) rfl ⟨by rw [HT.out],hBB⟩
end Go.Proofs.YtbccojjcdcighaaGreatDoor

namespace Go.Proofs.YtbccojjcdcighaaGreatDoor
open Go.RowKit Go.Shelf BS
def namV:Array Value:=(tabL.map fun e=>Value.string e.1).toArray
theorem namV_get (k:Nat) (h:k<12):namV[k]? =some (.string (tE k).1):=by
 have h1:k<tabL.length:=h;simp only [namV,List.getElem?_toArray,List.getElem?_map,List.getElem?_eq_getElem h1,Option.map_some,tE_eq k h]<;>rfl
set_option maxRecDepth 100000 in
set_option maxHeartbeats 2000000 in
theorem rNames_calls (w:World):Calls Tryz.prog 138 #[] w fun e w'=>∃g,e=.returned (.slice (some ⟨g,0,none⟩) 12 12)∧(w.heap.size≤g∧Blk w' g namV 9)∧Below w.heap.size w w':=by
 go_enter Tryz.func138,Tryz.ntmps138
 go_wp2
 go_ret;exact ⟨w.heap.size,rfl,⟨Nat.le_refl _,Blk.new w namV _⟩,(Below.refl _ _).alloc (Nat.le_refl _) _⟩
@[reducible] def tabZ:Array Value:=#[.string ⟨#[]⟩,.int .u64 0,.int .u64 0,.int .u64 0,.int .u64 0,.string ⟨#[]⟩,.int .u64 0,.int .u64 0,.int .u64 0,.int .u64 0,.string ⟨#[]⟩,.int .u64 0,.int .u64 0,.int .u64 0,.int .u64 0,.string ⟨#[]⟩,.int .u64 0,.int .u64 0,.int .u64 0,.int .u64 0,.string ⟨#[]⟩,.int .u64 0,.int .u64 0,.int .u64 0,.int .u64 0,.string ⟨#[]⟩,.int .u64 0,.int .u64 0,.int .u64 0,.int .u64 0,.string ⟨#[]⟩,.int .u64 0,.int .u64 0,.int .u64 0,.int .u64 0,.string ⟨#[]⟩,.int .u64 0,.int .u64 0,.int .u64 0,.int .u64 0,.string ⟨#[]⟩,.int .u64 0,.int .u64 0,.int .u64 0,.int .u64 0,.string ⟨#[]⟩,.int .u64 0,.int .u64 0,.int .u64 0,.int .u64 0,.string ⟨#[]⟩,.int .u64 0,.int .u64 0,.int .u64 0,.int .u64 0,.string ⟨#[]⟩,.int .u64 0,.int .u64 0,.int .u64 0,.int .u64 0]
theorem mk12 (w:World):(Instr.makeSlice 192 (.int .i64 12) (.int .i64 12)).run Tryz.prog w=.ok (.slice (some ⟨w.heap.size,0,none⟩) 12 12) (w.alloc (.cells #[.string ⟨#[]⟩,.string ⟨#[]⟩,.string ⟨#[]⟩,.string ⟨#[]⟩,.string ⟨#[]⟩,.string ⟨#[]⟩,.string ⟨#[]⟩,.string ⟨#[]⟩,.string ⟨#[]⟩,.string ⟨#[]⟩,.string ⟨#[]⟩,.string ⟨#[]⟩] 9)):=by kernel_rfl
theorem wpList_store_row {P:Program} {ops:Array Oper} {rest:List Oper} {o:Oper} {a:Act} {w w':World} {Q:Exit→Act→World→Prop} {cs:Array Value} (hgd:o.guard=none) (ty:TypeId) (x y:Operand) (ho:o.op=.store ty x y)
 (g:Nat) (hx:a.eval x=.pointer (some ⟨g,0,none⟩)) (hy:a.eval y=.agg cs) (hst:(Instr.storeAt ty (.pointer (some ⟨g,0,none⟩)) (.agg cs)).run P w=.ok () w') (h:wpList P ops Q rest (a.put o.dst undef) w'):wpList P ops Q (o::rest) a w:=
 wpList_plain hgd fun _ hK=>wp_store_row ty x y ho g hx hy hst (hK _ _ h)
set_option maxRecDepth 100000 in
set_option maxHeartbeats 2000000 in
theorem cNames_calls (w : World) : Calls Tryz.prog 207 #[] w fun e w' => ∃ g, e = .returned (.slice (some ⟨g, 0, none⟩) 12 12) ∧ (w.heap.size ≤ g ∧ Blk w' g namV 9) ∧ Below w.heap.size w w' := by
  have hmk := mk12
  go_enter Tryz.func207, Tryz.ntmps207
  go_wp2_with fail
  refine (table_calls _).mono ?_
  rintro e w1 ⟨rfl, hb1⟩
  go_wp2_with (first
    | (with_reducible refine wpList_store_row (o := ⟨none, .store 236 _ _, _, _, _, _⟩) rfl 236 _ _ rfl w1.heap.size rfl rfl (run_storeAt_new w1 236 tabZ tabV (by kernel_rfl) rfl tabV_one) ?_
       have hbT := Blk.new w1 tabV 236)
    | (with_reducible refine wpList_load_row (o := ⟨_, .load 236 _, _, _, _, _⟩) rfl 236 _ rfl w1.heap.size rfl 236 tabV (0, 0) _ ?_ Tryz.underlying236 rfl ?_ ?_
       · exact hbT.alloc _
       · kernel_rfl))
  have hbN := Blk.new (w1.alloc (.cells tabV 236)) #[.string ⟨#[]⟩, .string ⟨#[]⟩, .string ⟨#[]⟩, .string ⟨#[]⟩, .string ⟨#[]⟩, .string ⟨#[]⟩, .string ⟨#[]⟩, .string ⟨#[]⟩, .string ⟨#[]⟩, .string ⟨#[]⟩, .string ⟨#[]⟩, .string ⟨#[]⟩] 9
  rw [World.size_alloc] at hbN
  have hB : Below w.heap.size w ((w1.alloc (.cells tabV 236)).alloc (.cells #[.string ⟨#[]⟩, .string ⟨#[]⟩, .string ⟨#[]⟩, .string ⟨#[]⟩, .string ⟨#[]⟩, .string ⟨#[]⟩, .string ⟨#[]⟩, .string ⟨#[]⟩, .string ⟨#[]⟩, .string ⟨#[]⟩, .string ⟨#[]⟩, .string ⟨#[]⟩] 9)) := (hb1.alloc hb1.size _).alloc (by have := hb1.size; simp; omega) _
  clear hbT hmk
  have hz := hb1.size
  have hG : w.heap.size ≤ w1.heap.size + 1 := by omega
  clear hb1 hz
  generalize (w1.alloc (.cells tabV 236)).alloc (.cells #[.string ⟨#[]⟩, .string ⟨#[]⟩, .string ⟨#[]⟩, .string ⟨#[]⟩, .string ⟨#[]⟩, .string ⟨#[]⟩, .string ⟨#[]⟩, .string ⟨#[]⟩, .string ⟨#[]⟩, .string ⟨#[]⟩, .string ⟨#[]⟩, .string ⟨#[]⟩] 9) = w2 at *
  generalize w1.heap.size + 1 = G at *
  go_loopw [8] (fun i wr => ∃ k : Nat, k ≤ 12 ∧ i = .int .i64 k ∧ (∃ vs : Array Value, vs.size = 12 ∧ (∀ j, j < k → vs[j]? = some (.string (tE j).1)) ∧ Blk wr G vs 9) ∧ Below w.heap.size w wr) (fun i _ => 12 - (intOf i).toNat)
  case atStart => exact ⟨0, by omega, rfl, ⟨_, rfl, fun j hj => by omega, hbN⟩, hB⟩
  case round =>
    clear hbN hB
    obtain ⟨k, hk, rfl, ⟨vs, hvs, hno, hb⟩, hB⟩ := hrel
    have HN := Lib.hid hno
    clear hno
    by_cases hkl : k < 12
    · have hix := tab_index k hkl
      have hd : decide (k < 12) = true := by simpa using hkl
      obtain ⟨old, hold⟩ : ∃ old, vs[k]? = some old := ⟨vs[k]'(by omega), by simp [show k < vs.size by omega]⟩
      generalize hnm : (tE k).1 = nm at hix
      generalize (tE k).2 = st at *
      have HNM := Lib.hid hnm
      clear hnm
      have hc := ((hb.alloc (.cells #[.string nm, .int .u64 (wd st 0), .int .u64 (wd st 1), .int .u64 (wd st 2), .int .u64 (wd st 3)] 235)).cell k).trans hold
      have hf := (hb.alloc (.cells #[.string nm, .int .u64 (wd st 0), .int .u64 (wd st 1), .int .u64 (wd st 2), .int .u64 (wd st 3)] 235)).frozen k
      go_wp2
      go_roundw
      case rel =>
        refine ⟨k + 1, by omega, by simp, ⟨vs.setIfInBounds k (.string nm), by simp [hvs], fun j hj => ?_, (hb.alloc _).set k _⟩, ?_⟩
        · by_cases hjk : j = k
          · subst hjk
            rw [HNM.out]
            simp [hvs, hkl]
          · rw [Array.getElem?_setIfInBounds_ne (Ne.symm hjk)]
            exact HN.out j (by omega)
        · exact below_set (hB.alloc hB.size _) hG _ _
      case measure => simp [intOf]; omega
    · obtain rfl : k = 12 := by omega
      have hv : vs = namV := by
        apply Array.ext
        · rw [hvs]; rfl
        · intro i h1 h2
          have e1 := HN.out i (by omega)
          have e2 := namV_get i (by omega)
          rw [Array.getElem?_eq_getElem h1] at e1
          rw [Array.getElem?_eq_getElem h2] at e2
          exact Option.some.inj (e1.trans e2.symm)
      subst hv
      go_wp2
      go_ret
      exact ⟨G, rfl, ⟨hG, hb⟩, hB⟩
end Go.Proofs.YtbccojjcdcighaaGreatDoor

namespace Go.Proofs.YtbccojjcdcighaaGreatDoor
open Go.RowKit Go.Shelf BS
def SI (w:World) (f:Nat→Bool) (W:World):Prop:=
 ∃arr,Bools arr f∧(Blk W w.heap.size (setA 0) 43∧Blk W (w.heap.size+1) arr 152)∧Below w.heap.size w W
def NamAt (g:Nat) (W:World):Prop:=Blk W g namV 9
theorem NamAt.cell {g:Nat} {W:World} (h:NamAt g W) (k:Nat) (hk:k<12):W.cell? ⟨g,k,none⟩=some (.string (tE k).1):=(Blk.cell h k).trans (namV_get k hk)
set_option maxRecDepth 100000 in
set_option maxHeartbeats 4000000 in
theorem rOf_calls (name:ByteArray) (w:World):Calls Tryz.prog 130 #[.string name] w fun e w'=>e=.returned (.tuple #[setV (ofS name.toList),.bool (ofB name.toList)])∧Below w.heap.size w w':=by
 obtain ⟨zs,hzb,hz⟩:=zeroBools;have h0:SI w (fun j=>decide (j<0) && isC name.toList (j:Int)) ((w.alloc (.cells (setA 0) 43)).alloc (.cells zs 152)):=by
  refine ⟨zs,hzb.congr (fun j _=>by simp),⟨(Blk.new w _ _).alloc _,?_⟩,by go_grown⟩;have:=Blk.new (w.alloc (.cells (setA 0) 43)) zs 152
  rwa [World.size_alloc] at this
 clear hzb;go_enter Tryz.func130,Tryz.ntmps130
 go_wp2_with fail
 have e0:(w.alloc (.cells #[.int .u64 0,.int .u64 0,.int .u64 0,.int .u64 0] 43)).alloc (.cells zs 152)=(w.alloc (.cells (setA 0) 43)).alloc (.cells zs 152):=rfl;rw [e0];clear e0 hz;generalize (w.alloc (.cells (setA 0) 43)).alloc (.cells zs 152)=w1 at*
 go_loopw [5] (fun i wr=>∃k:Nat,k≤256∧i=.int .i64 k∧SI w (fun j=>decide (j<k) && isC name.toList (j:Int)) wr) (fun i _=>256 - (intOf i).toNat)
 case atStart=>exact ⟨0,by omega,rfl,h0⟩
 case round=>
  clear h0;obtain ⟨k,hk,rfl,arr,hb,⟨bR,bL⟩,hB⟩:=hrel
  by_cases hkl:k<256
  ·have hc:=(bL.cell k).trans (hb.2 k hkl)
   have hf:=bL.frozen k;have HB:=Lib.hid hb;clear hb
   go_wp2_with (go_at_call 137;refine (is_calls _ _ _).mono ?_;rintro e w' ⟨rfl,rfl⟩)
   go_roundw
   case rel=>
    refine ⟨k+1,by omega,by simp,_,(HB.out.set k (isC name.toList (k:Int))).congr ?_,⟨bR.other (by omega) _ _,bL.set k _⟩,below_set hB (by omega) _ _⟩;intro j _
    by_cases hjk:j=k
    ·subst hjk;simp
    ·have:(j<k+1)↔(j<k):=by omega
     simp [hjk,this]
   case measure=>simp [intOf];omega
  ·obtain rfl:k=256:=by omega
   replace hb:=hb.congr (g:=fun j=>isC name.toList (j:Int)) (fun j hj=>by simp [hj]);have HO:=Lib.hid (of_calls arr _ hb);have hi3:(Tryz.prog.info? 152).map (·.size)=some arr.size:=by rw [hb.1];exact infoBools
   have HI:=Lib.hid hi3;clear hb hi3
   go_wp2_with fail
   refine (rNames_calls _).mono ?_;rintro e w2 ⟨g,rfl,⟨hg,hN⟩,hb2⟩;have bR2:=bR.below hb2 bR.lt;have bL2:=bL.below hb2 bL.lt;have hB2:=hB.trans (hb2.mono hB.size);have hg1:w.heap.size<g:=Nat.lt_of_lt_of_le bR.lt hg;have hg2:w.heap.size+1<g:=Nat.lt_of_lt_of_le bL.lt hg;have HN:Hid (NamAt g w2):=Lib.hid hN;clear hN hg hb2 bR bL hB
   go_wp2_with fail
   go_loopw [7] (fun i wr=>∃k:Nat,k≤12∧i=.int .i64 k∧(∀j,j<k→(tE j).1.toList≠name.toList)∧w2=wr) (fun i _=>12 - (intOf i).toNat)
   case atStart=>exact ⟨0,by omega,rfl,fun j hj=>by omega,rfl⟩
   case round=>
    obtain ⟨k,hk,rfl,hno,rfl⟩:=hrel;have HNO:=Lib.hid hno;clear hno
    by_cases hkl:k<12
    ·have hcn:=HN.out.cell k hkl
     by_cases hq:(tE k).1.toList=name.toList
     ·have HS:=Lib.hid (ofS_at name.toList k hkl HNO.out hq)
      have HO2:=Lib.hid (ofB_at name.toList k hkl HNO.out hq);have HI2:=Lib.hid (isS_of name.toList k hkl hq);have hqb:((tE k).1.toList==name.toList)=true:=beq_iff_eq.2 hq;clear hq;generalize (tE k).1=nm at*;have HL:=Lib.hid bL2;have HB2:=Lib.hid hB2;clear bL2 hB2
      go_wp2_with (refine wpList_load_row rfl 152 _ rfl (w.heap.size+1) rfl 152 arr (0,0) _ HL.out Tryz.underlying152 rfl HI.out ?_)
      refine (HO.out _).mono ?_;rintro e w3 ⟨rfl,hb3⟩;have bR3:=bR2.below hb3 bR2.lt;have hB3:=HB2.out.trans (hb3.mono HB2.out.size);obtain ⟨⟨d0,d1,d2,d3⟩,g0,g1,g2,g3⟩:=bR3.cells4;clear hb3 bR2 hcn hqb;have ht:ofFn (fun j=>isC name.toList (j:Int))=(tE k).2:=HI2.out;rw [ht];clear ht;generalize hst:(tE k).2=t at*;have HT:=Lib.hid hst;clear hst
      go_wp2
      obtain ⟨hR,hBB⟩:=fin4 bR3 hB3 (Nat.le_refl _) t;clear d0 d1 d2 d3 g0 g1 g2 g3 bR3 hB3;generalize (((w3.setCell ⟨w.heap.size,0,none⟩ (.int .u64 (wd t 0))).setCell ⟨w.heap.size,1,none⟩ (.int .u64 (wd t 1))).setCell ⟨w.heap.size,2,none⟩ (.int .u64 (wd t 2))).setCell ⟨w.heap.size,3,none⟩ (.int .u64 (wd t 3))=W4 at*;obtain ⟨⟨e0,e1,e2,e3⟩,_⟩:=hR.cells4;refine bodyPost_ret (v:=.tuple #[setV t,.bool true]) ?_ ?_ ?_
      ·simp [results,Tryz.results130,go_sem,e0,e1,e2,e3]
      ·rfl
      ·exact ⟨by rw [HS.out,HO2.out],hBB⟩
     ·have hqb:((tE k).1.toList==name.toList)=false:=beq_eq_false_iff_ne.2 hq
      have HQ:=Lib.hid hq;clear hq;generalize hnm:(tE k).1=nm at hqb hcn;have HNM:=Lib.hid hnm;clear hnm
      go_wp2
      go_roundw
      case rel=>
       refine ⟨k+1,by omega,by simp,fun j hj=>?_,trivial⟩
       by_cases hjk:j=k
       ·subst hjk;exact HQ.out
       ·exact HNO.out j (by omega)
      case measure=>simp [intOf];omega
    ·obtain rfl:k=12:=by omega
     obtain ⟨⟨c0,c1,c2,c3⟩,f0,f1,f2,f3⟩:=bR2.cells4
     go_wp2
     obtain ⟨hR,hBB⟩:=fin4 bR2 hB2 (Nat.le_refl _) 0;have e9:((((w2.setCell ⟨w.heap.size,0,none⟩ (.int .u64 0)).setCell ⟨w.heap.size,1,none⟩ (.int .u64 0)).setCell ⟨w.heap.size,2,none⟩ (.int .u64 0)).setCell ⟨w.heap.size,3,none⟩ (.int .u64 0))=((((w2.setCell ⟨w.heap.size,0,none⟩ (.int .u64 (wd 0 0))).setCell ⟨w.heap.size,1,none⟩ (.int .u64 (wd 0 1))).setCell ⟨w.heap.size,2,none⟩ (.int .u64 (wd 0 2))).setCell ⟨w.heap.size,3,none⟩ (.int .u64 (wd 0 3))):=rfl;rw [e9];clear e9 c0 c1 c2 c3 f0 f1 f2 f3 bR2 hB2;generalize ((((w2.setCell ⟨w.heap.size,0,none⟩ (.int .u64 (wd 0 0))).setCell ⟨w.heap.size,1,none⟩ (.int .u64 (wd 0 1))).setCell ⟨w.heap.size,2,none⟩ (.int .u64 (wd 0 2))).setCell ⟨w.heap.size,3,none⟩ (.int .u64 (wd 0 3)))=W4 at*;obtain ⟨⟨e0,e1,e2,e3⟩,_⟩:=hR.cells4;exact bodyPost_ret (v:=.tuple #[setV 0,.bool false]) (by simp [results,Tryz.results130,go_sem,e0,e1,e2,e3]) rfl ⟨by rw [ofS_not _ HNO.out,ofB_not _ HNO.out],hBB⟩
set_option maxRecDepth 100000 in
set_option maxHeartbeats 4000000 in
theorem rBegins_calls (s:ByteArray) (_hs:s.size≤9223372036854775807) (w:World):Calls Tryz.prog 131 #[.string s] w fun e w'=>e=.returned (.bool (begB s))∧Below w.heap.size w w':=by
 go_enter Tryz.func131,Tryz.ntmps131
 go_wp2_with fail
 refine (rNames_calls _).mono ?_;rintro e w2 ⟨g,rfl,⟨hg,hN⟩,hb2⟩;have HN:Hid (NamAt g w2):=Lib.hid hN;clear hN hg
 go_wp2_with fail
 go_loopw [4] (fun i wr=>∃k:Nat,k≤12∧i=.int .i64 k∧(∀j,j<k→pfx (tE j).1 s=false)∧w2=wr) (fun i _=>12 - (intOf i).toNat)
 case atStart=>exact ⟨0,by omega,rfl,fun j hj=>by omega,rfl⟩
 case round=>
  obtain ⟨k,hk,rfl,hno,rfl⟩:=hrel;have HNO:=Lib.hid hno;clear hno
  by_cases hkl:k<12
  ·have hcn:=HN.out.cell k hkl
   have hnz:=tE_size k hkl;have key:∀nm:ByteArray,(tE k).1=nm→pfx (tE k).1 s=pfx nm s:=fun nm h=>by rw [h]
   cases hq:pfx (tE k).1 s with
   |true=>
    have HS:=Lib.hid (begB_at s k hkl hq);generalize (tE k).1=nm at*;have hq':=hq;simp only [pfx,Bool.and_eq_true,decide_eq_true_eq] at hq';obtain ⟨q1,q2⟩:=hq';have q3:decide (s.size≤nm.size)=true:=by simpa using q1
    clear hq key
    go_wp2
    go_ret;exact ⟨by rw [HS.out];rfl,hb2⟩
   |false=>
    have HQ:=Lib.hid hq;clear hq;generalize hnm:(tE k).1=nm at hcn hnz;have hq':pfx nm s=false:=by rw [←key nm hnm];exact HQ.out
    clear key;have HNM:=Lib.hid hnm;clear hnm
    by_cases q1:s.size≤nm.size
    ·have q3:decide (s.size≤nm.size)=true:=by simpa using q1
     have q2:((nm.extract 0 s.size).toList==s.toList)=false:=by simpa [pfx,q3] using hq'
     clear hq'
     go_wp2
     go_roundw
     case rel=>
      refine ⟨k+1,by omega,by simp,fun j hj=>?_,trivial⟩
      by_cases hjk:j=k
      ·subst hjk;exact HQ.out
      ·exact HNO.out j (by omega)
     case measure=>simp [intOf];omega
    ·have q3:decide (s.size≤nm.size)=false:=by simpa using q1
     clear hq'
     go_wp2
     go_roundw
     case rel=>
      refine ⟨k+1,by omega,by simp,fun j hj=>?_,trivial⟩
      by_cases hjk:j=k
      ·subst hjk;exact HQ.out
      ·exact HNO.out j (by omega)
     case measure=>simp [intOf];omega
  ·obtain rfl:k=12:=by omega
   go_wp2
   go_ret;exact ⟨by rw [begB_not _ HNO.out];rfl,hb2⟩
theorem ofB_self:∀k,k<12→ofB (tE k).1.toList=true:=by decide +kernel
end Go.Proofs.YtbccojjcdcighaaGreatDoor

namespace Go.Proofs.YtbccojjcdcighaaGreatDoor
open Go.RowKit BS
structure BR where
 set:BitVec 256
 pos:Nat
 err:Nat
 place:Nat
 fin:Bool
 neg:Bool
def badR (e p:Nat):BR:=⟨0,0,e,p,false,false⟩
def addR (x:BR) (lo hi pos:Nat):BR:=⟨x.set|||range lo hi,pos,x.err,x.place,x.fin,x.neg⟩
def spec3 (b:Nat):Bool:=b==58||b==46||b==61
def nameR (s:ByteArray) (fr:Nat) (x:BR):Nat→Nat→BR
 |0,_=>badR 2 s.size
 |n+1,j=>
  if bt s j=58 then
   if ofB (s.extract fr j).toList=false then badR 5 (j+1)
   else if s.size≤j+1 then badR 2 s.size
   else if bt s (j+1)≠93 then badR 3 (j+2)
   else ⟨x.set|||ofS (s.extract fr j).toList,j+2,x.err,x.place,x.fin,x.neg⟩
  else if begB (s.extract fr (j+1))=false then badR 5 (j+1)
  else nameR s fr x n (j+1)
def thingR (s:ByteArray) (x:BR) (first:Bool):BR:=
 let i:=x.pos
 if s.size≤i then badR 2 s.size
 else if bt s i=93∧first=false then ⟨x.set,i+1,x.err,x.place,true,x.neg⟩
 else if s.size≤i+1 then badR 2 s.size
 else if bt s i=91∧bt s (i+1)=58 then nameR s (i+2) x (s.size - (i+2)) (i+2)
 else if bt s i=91∧spec3 (bt s (i+1))=true then badR 3 (i+2)
 else if bt s (i+1)≠45 then addR x (bt s i) (bt s i) (i+1)
 else if s.size≤i+2 then badR 2 s.size
 else if bt s (i+2)=93 then addR x (bt s i) (bt s i) (i+1)
 else if bt s (i+2)<bt s i then badR 4 (i+3)
 else if bt s (i+2)=91∧s.size≤i+3 then badR 2 s.size
 else if bt s (i+2)=91∧spec3 (bt s (i+3))=true then badR 3 (i+4)
 else addR x (bt s i) (bt s (i+2)) (i+3)
def loopR (s:ByteArray):Nat→BR→Bool→BR
 |0,x,_=>x
 |n+1,x,first=>
  if x.fin=true then x
  else if (thingR s x first).err≠0 then thingR s x first
  else loopR s n (thingR s x first) false
def startR (s:ByteArray) (a:Nat):BR:=if a+1<s.size∧bt s (a+1)=94 then ⟨0,a+2,0,0,false,true⟩ else ⟨0,a+1,0,0,false,false⟩
def finR (x:BR):BitVec 256×Nat×Nat×Nat:=if x.err≠0 then (0,0,x.err,x.place) else (if x.neg=true then ~~~x.set else x.set,x.pos,0,0)
def readR (s:ByteArray) (at':Int):BitVec 256×Nat×Nat×Nat:=
 if at'<0 then (0,0,1,0)
 else if s.size≤at'.toNat∨bt s at'.toNat≠91 then (0,0,1,0)
 else finR (loopR s (s.size+1) (startR s at'.toNat) true)
end Go.Proofs.YtbccojjcdcighaaGreatDoor

namespace Go.Proofs.YtbccojjcdcighaaGreatDoor
open Go.RowKit BS
theorem nameR_ok (s:ByteArray) (fr:Nat) (x:BR):∀n j,n=s.size - j→(nameR s fr x n j).err=0→j<(nameR s fr x n j).pos∧(nameR s fr x n j).pos≤s.size∧(nameR s fr x n j).neg=x.neg∧(nameR s fr x n j).fin=x.fin
 |0,j,_,h=>by simp [nameR,badR] at h
 |n+1,j,hn,h=>by
  unfold nameR at h ⊢
  split at h
  ·rename_i hc
   rw [if_pos hc]
   split at h
   ·simp [badR] at h
   ·rename_i h1
    rw [if_neg h1]
    split at h
    ·simp [badR] at h
    ·rename_i h2
     rw [if_neg h2]
     split at h
     ·simp [badR] at h
     ·rename_i h3
      rw [if_neg h3];exact ⟨by simp only;omega,by simp only;omega,rfl,rfl⟩
  ·rename_i hc
   rw [if_neg hc]
   split at h
   ·simp [badR] at h
   ·rename_i h1
    rw [if_neg h1];have:=nameR_ok s fr x n (j+1) (by omega) h;exact ⟨by omega,this.2.1,this.2.2⟩
theorem ite_ok {α:Type} (P:α→Prop) {c:Prop} [Decidable c] {a b:α} (h1:c→P a) (h2:¬c→P b):P (if c then a else b):=by
 by_cases h:c
 ·rw [if_pos h];exact h1 h
 ·rw [if_neg h];exact h2 h
def OkB (s:ByteArray) (x r:BR):Prop:=r.err=0→x.pos<r.pos∧r.pos≤s.size∧r.neg=x.neg
theorem okB_bad (s:ByteArray) (x:BR) (e p:Nat):OkB s x (badR (e+1) p):=fun h=>by simp [badR] at h
theorem okB_add (s:ByteArray) (x:BR) (lo hi p:Nat) (h1:x.pos<p) (h2:p≤s.size):OkB s x (addR x lo hi p):=fun _=>⟨h1,h2,rfl⟩
theorem thingR_okB (s:ByteArray) (x:BR) (first:Bool):OkB s x (thingR s x first):=by
 unfold thingR;refine ite_ok _ (fun _=>okB_bad _ _ 1 _) (fun hA=>?_);refine ite_ok _ (fun _ _=>⟨Nat.lt_succ_self _,by simp only;omega,rfl⟩) (fun _=>?_);refine ite_ok _ (fun _=>okB_bad _ _ 1 _) (fun hC=>?_);refine ite_ok _ (fun _ h=>?_) (fun _=>?_)
 ·have:=nameR_ok s (x.pos+2) x (s.size - (x.pos+2)) (x.pos+2) rfl h
  exact ⟨by omega,this.2.1,this.2.2.1⟩
 refine ite_ok _ (fun _=>okB_bad _ _ 2 _) (fun _=>?_);refine ite_ok _ (fun _=>okB_add _ _ _ _ _ (by omega) (by omega)) (fun _=>?_);refine ite_ok _ (fun _=>okB_bad _ _ 1 _) (fun hG=>?_);refine ite_ok _ (fun _=>okB_add _ _ _ _ _ (by omega) (by omega)) (fun _=>?_);refine ite_ok _ (fun _=>okB_bad _ _ 3 _) (fun _=>?_);refine ite_ok _ (fun _=>okB_bad _ _ 1 _) (fun _=>?_);refine ite_ok _ (fun _=>okB_bad _ _ 2 _) (fun _=>?_);exact okB_add _ _ _ _ _ (by omega) (by omega)
theorem thingR_ok (s:ByteArray) (x:BR) (first:Bool) (h:(thingR s x first).err=0):x.pos<(thingR s x first).pos∧(thingR s x first).pos≤s.size∧(thingR s x first).neg=x.neg:=thingR_okB s x first h
theorem loopR_fin (s:ByteArray) (n:Nat) (x:BR) (first:Bool) (h:x.fin=true):loopR s (n+1) x first=x:=by rw [loopR,if_pos h]
theorem loopR_err (s:ByteArray) (n:Nat) (x:BR) (first:Bool) (h:x.fin=false) (he:(thingR s x first).err≠0):loopR s (n+1) x first=thingR s x first:=by rw [loopR,if_neg (by rw [h];decide),if_pos he]
theorem loopR_on (s:ByteArray) (n:Nat) (x:BR) (first:Bool) (h:x.fin=false) (he:(thingR s x first).err=0):loopR s (n+1) x first=loopR s n (thingR s x first) false:=by rw [loopR,if_neg (by rw [h];decide),if_neg (by rw [he];decide)]
end Go.Proofs.YtbccojjcdcighaaGreatDoor

namespace Go.Proofs.YtbccojjcdcighaaGreatDoor
open Go.RowKit Go.Shelf BS
@[reducible] def stI (t:BitVec 256) (pos err place:Int) (fin neg:Bool):Array Value:=#[.int .u64 (wd t 0),.int .u64 (wd t 1),.int .u64 (wd t 2),.int .u64 (wd t 3),.int .i64 pos,.int .i64 err,.int .i64 place,.bool fin,.bool neg]
def stA (x:BR):Array Value:=stI x.set x.pos x.err x.place x.fin x.neg
theorem infoSt:(Tryz.prog.info? 155).map (·.size)=some 9:=by kernel_rfl
def zSt:BitVec 256:=0
set_option maxRecDepth 100000 in
set_option maxHeartbeats 1000000 in
theorem bad_calls (e p:Int) (w:World):Calls Tryz.prog 120 #[.int .i64 e,.int .i64 p] w fun en w'=>en=.returned (.agg (stI 0 0 e p false false))∧Below w.heap.size w w':=by
 go_enter Tryz.func120,Tryz.ntmps120
 go_wp2
 have hR:=Blk.new w (stI 0 0 e p false false) 155;have hB:Below w.heap.size w (w.alloc (.cells (stI 0 0 e p false false) 155)):=by go_grown
 exact bodyPost_ret (v:=.agg (stI 0 0 e p false false)) (results_cell_row rfl _ _ w.heap.size 155 (stI 0 0 e p false false) (0,0) _ rfl hR Tryz.underlying155 rfl infoSt) rfl ⟨rfl,hB⟩
set_option maxHeartbeats 1000000 in
theorem special_calls (b:Nat) (w:World):Calls Tryz.prog 122 #[.int .u8 b] w fun e w'=>e=.returned (.bool (spec3 b))∧w=w':=by
 have e1:((b:Int)==58)=(b==58):=by rw [Bool.eq_iff_iff,beq_iff_eq,beq_iff_eq];omega
 have e2:((b:Int)==46)=(b==46):=by rw [Bool.eq_iff_iff,beq_iff_eq,beq_iff_eq];omega
 have e3:((b:Int)==61)=(b==61):=by rw [Bool.eq_iff_iff,beq_iff_eq,beq_iff_eq];omega
 have HS:=Lib.hid (show spec3 b=(b==58||b==46||b==61) from rfl);generalize (b==58)=x at*;generalize (b==46)=y at*;generalize (b==61)=z at*
 cases x<;>cases y<;>
 ·go_enter Tryz.func122,Tryz.ntmps122
  go_wp2
  go_ret;exact ⟨by rw [HS.out]<;>simp,rfl⟩
def SAd (w:World) (c:Array Value) (W:World):Prop:=(Blk W w.heap.size c 155∧Blk W (w.heap.size+1) (stI 0 0 0 0 false false) 155)∧Below w.heap.size w W
theorem keepAd {w W W':World} {c:Array Value} (h:SAd w c W) (hb:Below W.heap.size W W'):SAd w c W':=⟨⟨h.1.1.below hb h.1.1.lt,h.1.2.below hb h.1.2.lt⟩,h.2.trans (hb.mono h.2.size)⟩
theorem drewAd {w W:World} {c:Array Value} (h:SAd w c W):SAd w c W.drew:=⟨⟨h.1.1,h.1.2⟩,h.2.drew⟩
theorem st_one (t:BitVec 256) (pos err place:Int) (fin neg:Bool):((stI t pos err place fin neg).all fun x=>x.oneCell')=true:=by simp [Value.oneCell']
set_option maxRecDepth 100000 in
set_option maxHeartbeats 4000000 in
theorem add_calls (t : BitVec 256) (pos err place : Int) (fin neg : Bool) (lo hi : Nat) (hlo : lo < 256) (hhi : hi < 256) (q : Int) (w : World) :
    Calls Tryz.prog 123 #[.agg (stI t pos err place fin neg), .int .i64 lo, .int .i64 hi, .int .i64 q] w fun e w' => e = .returned (.agg (stI (t ||| range lo hi) q err place fin neg)) ∧ Below w.heap.size w w' := by
  have h0 : SAd w (stI t pos err place fin neg) ((w.alloc (.cells (stI t pos err place fin neg) 155)).alloc (.cells (stI 0 0 0 0 false false) 155)) := by
    refine ⟨⟨(Blk.new w _ _).alloc _, ?_⟩, by go_grown⟩
    have := Blk.new (w.alloc (.cells (stI t pos err place fin neg) 155)) (stI 0 0 0 0 false false) 155
    rwa [World.size_alloc] at this
  generalize hr : t ||| range lo hi = r
  have hor : ∀ w', Calls Tryz.prog 88 #[setV t, setV (range lo hi), .int .i64 1] w' fun e w'' => e = .returned (setV r) ∧ Below w'.heap.size w' w'' := by rw [← hr]; exact ror_calls t (range lo hi)
  have HOR := Lib.hid hor
  clear hor
  clear hr
  generalize hg : range lo hi = rg at HOR
  have hrr : ∀ w', Calls Tryz.prog 93 #[.int .i64 lo, .int .i64 hi] w' fun e w'' => e = .returned (setV rg) ∧ Below w'.heap.size w' w'' := by rw [← hg]; exact fun w' => rrange_calls lo hi w' hlo hhi
  have HRR := Lib.hid hrr
  clear hrr hg
  go_enter Tryz.func123, Tryz.ntmps123
  go_wp2_with fail
  refine region_stepsM (S := SAd w (stI t pos err place fin neg)) (m := 7) rfl (by kernel_rfl) (drewAd h0) ?_
  simp only [List.size_toArray, List.length_cons, List.length_nil, Nat.reduceAdd, Array.replicate_succ, Array.replicate_zero, List.push_toArray, List.nil_append, List.cons_append]
  refine AnyM.next (m := 7) (i := 0) (d := some 9) (v := .pointer (some ⟨w.heap.size, 0, none⟩)) rfl rfl (by kernel_rfl) (by kernel_rfl) (by kernel_rfl) (by kernel_rfl) (StepsIf.yield (by kernel_rfl) (fun w' hS => by clear hS; go_simp)) ?_
  intro a' ha'
  simp only [Act.put, List.setIfInBounds_toArray, List.set_cons_zero, List.set_cons_succ] at ha'
  subst ha'
  refine AnyM.next (m := 7) (i := 1) (d := some 10) (v := setV t) rfl rfl (by kernel_rfl) (by kernel_rfl) (by kernel_rfl) (by kernel_rfl) (StepsIf.yield (by kernel_rfl) (fun w' hS => by have c0 := hS.1.1.cell 0; have c1 := hS.1.1.cell 1; have c2 := hS.1.1.cell 2; have c3 := hS.1.1.cell 3; simp only [List.getElem?_toArray, List.getElem?_cons_zero, List.getElem?_cons_succ] at c0 c1 c2 c3; clear hS; go_simp)) ?_
  intro a' ha'
  simp only [Act.put, List.setIfInBounds_toArray, List.set_cons_zero, List.set_cons_succ] at ha'
  subst ha'
  refine AnyM.next (m := 7) (i := 2) (d := some 11) (v := .int .i64 lo) rfl rfl (by kernel_rfl) (by kernel_rfl) (by kernel_rfl) (by kernel_rfl) (StepsIf.yield (by kernel_rfl) (fun w' hS => by clear hS; go_simp)) ?_
  intro a' ha'
  simp only [Act.put, List.setIfInBounds_toArray, List.set_cons_zero, List.set_cons_succ] at ha'
  subst ha'
  refine AnyM.next (m := 7) (i := 3) (d := some 12) (v := .int .i64 hi) rfl rfl (by kernel_rfl) (by kernel_rfl) (by kernel_rfl) (by kernel_rfl) (StepsIf.yield (by kernel_rfl) (fun w' hS => by clear hS; go_simp)) ?_
  intro a' ha'
  simp only [Act.put, List.setIfInBounds_toArray, List.set_cons_zero, List.set_cons_succ] at ha'
  subst ha'
  refine AnyM.next (m := 7) (i := 4) (d := some 13) (v := setV rg) rfl rfl (by kernel_rfl) (by kernel_rfl) (by kernel_rfl) (by kernel_rfl) (StepsIf.call (by kernel_rfl) (fun w' hS => by clear hS; go_simp) (fun w' hS => (HRR.out w').mono fun e w'' h => ⟨h.1, keepAd hS h.2⟩)) ?_
  intro a' ha'
  simp only [Act.put, List.setIfInBounds_toArray, List.set_cons_zero, List.set_cons_succ] at ha'
  subst ha'
  refine AnyM.next (m := 7) (i := 5) (d := some 14) (v := setV r) rfl rfl (by kernel_rfl) (by kernel_rfl) (by kernel_rfl) (by kernel_rfl) (StepsIf.call (by kernel_rfl) (fun w' hS => by clear hS; go_simp) (fun w' hS => (HOR.out w').mono fun e w'' h => ⟨h.1, keepAd hS h.2⟩)) ?_
  intro a' ha'
  simp only [Act.put, List.setIfInBounds_toArray, List.set_cons_zero, List.set_cons_succ] at ha'
  subst ha'
  refine AnyM.next (m := 7) (i := 6) (d := some 15) (v := .pointer (some ⟨w.heap.size, 0, none⟩)) rfl rfl (by kernel_rfl) (by kernel_rfl) (by kernel_rfl) (by kernel_rfl) (StepsIf.yield (by kernel_rfl) (fun w' hS => by clear hS; go_simp)) ?_
  intro a' ha'
  simp only [Act.put, List.setIfInBounds_toArray, List.set_cons_zero, List.set_cons_succ] at ha'
  subst ha'
  clear h0
  refine AnyM.last rfl (by kernel_rfl) (by kernel_rfl) (by kernel_rfl) (fun w3 hS K hK => ?_)
  have c0 := hS.1.1.cell 0; have c1 := hS.1.1.cell 1; have c2 := hS.1.1.cell 2; have c3 := hS.1.1.cell 3
  have f0 := hS.1.1.frozen 0; have f1 := hS.1.1.frozen 1; have f2 := hS.1.1.frozen 2; have f3 := hS.1.1.frozen 3
  simp only [List.getElem?_toArray, List.getElem?_cons_zero, List.getElem?_cons_succ] at c0 c1 c2 c3
  have HS := Lib.hid hS
  clear hS
  go_simp
  refine hK _ _ ?_
  clear hK K c0 c1 c2 c3 f0 f1 f2 f3
  have hX := (((HS.out.1.1.set 0 (.int .u64 (wd r 0))).set 1 (.int .u64 (wd r 1))).set 2 (.int .u64 (wd r 2))).set 3 (.int .u64 (wd r 3))
  have hR := (((HS.out.1.2.other (show w.heap.size + 1 ≠ w.heap.size by omega) 0 (.int .u64 (wd r 0))).other (show w.heap.size + 1 ≠ w.heap.size by omega) 1 (.int .u64 (wd r 1))).other (show w.heap.size + 1 ≠ w.heap.size by omega) 2 (.int .u64 (wd r 2))).other (show w.heap.size + 1 ≠ w.heap.size by omega) 3 (.int .u64 (wd r 3))
  have hB := below_set (below_set (below_set (below_set HS.out.2 (Nat.le_refl _) 0 (.int .u64 (wd r 0))) (Nat.le_refl _) 1 (.int .u64 (wd r 1))) (Nat.le_refl _) 2 (.int .u64 (wd r 2))) (Nat.le_refl _) 3 (.int .u64 (wd r 3))
  clear HS
  generalize (((w3.setCell ⟨w.heap.size, 0, none⟩ (.int .u64 (wd r 0))).setCell ⟨w.heap.size, 1, none⟩ (.int .u64 (wd r 1))).setCell ⟨w.heap.size, 2, none⟩ (.int .u64 (wd r 2))).setCell ⟨w.heap.size, 3, none⟩ (.int .u64 (wd r 3)) = w4 at *
  replace hX : Blk w4 w.heap.size (stI r pos err place fin neg) 155 := hX
  have c4 := hX.cell 4
  have f4 := hX.frozen 4
  simp only [List.getElem?_toArray, List.getElem?_cons_zero, List.getElem?_cons_succ] at c4
  have HX := Lib.hid ((hX.set 4 (.int .i64 q) : Blk _ _ (stI r q err place fin neg) 155))
  have HRr := Lib.hid (hR.other (show w.heap.size + 1 ≠ w.heap.size by omega) 4 (.int .i64 q))
  have HB := Lib.hid (below_set hB (Nat.le_refl _) 4 (.int .i64 q))
  clear hX hR hB
  go_wp2_with (first
    | (with_reducible refine wpList_load_row (o := ⟨some 18, _, _, _, _, _⟩) rfl 155 _ rfl w.heap.size rfl 155 (stI r q err place fin neg) (0, 0) _ ?_ Tryz.underlying155 rfl ?_ ?_
       · exact HX.out
       · exact infoSt)
    | (with_reducible refine wpList_store_st (o := ⟨none, .store 155 _ _, _, _, _, _⟩) rfl 155 _ _ rfl (w.heap.size + 1) rfl rfl (run_storeAt_row _ (w.heap.size + 1) 155 155 (stI 0 0 0 0 false false) (stI r q err place fin neg) ?_ ?_ ?_ ?_) ?_
       · exact HRr.out
       · exact infoSt
       · rfl
       · exact st_one _ _ _ _ _ _))
  exact bodyPost_ret (v := .agg (stI r q err place fin neg)) (results_cell_row rfl _ _ (w.heap.size + 1) 155 (stI r q err place fin neg) (0, 0) _ rfl (Blk.setRow HRr.out) Tryz.underlying155 rfl infoSt) rfl ⟨rfl, below_row HB.out (by omega) _⟩
theorem badZ (e p:Int) (w:World):Calls Tryz.prog 120 #[.int .i64 e,.int .i64 p] w fun en w'=>en=.returned (.agg (stI zSt 0 e p false false))∧Below w.heap.size w w':=bad_calls e p w
theorem nameR_col (s:ByteArray) (fr:Nat) (x:BR) (n j:Nat) (h:bt s j=58):nameR s fr x (n+1) j=
 if ofB (s.extract fr j).toList=false then badR 5 (j+1)
  else if s.size≤j+1 then badR 2 s.size
  else if bt s (j+1)≠93 then badR 3 (j+2)
  else ⟨x.set|||ofS (s.extract fr j).toList,j+2,x.err,x.place,x.fin,x.neg⟩:=by rw [nameR,if_pos h]
theorem nameR_not (s:ByteArray) (fr:Nat) (x:BR) (n j:Nat) (h:¬bt s j=58):nameR s fr x (n+1) j=if begB (s.extract fr (j+1))=false then badR 5 (j+1) else nameR s fr x n (j+1):=by rw [nameR,if_neg h]
set_option maxRecDepth 100000 in
set_option maxHeartbeats 8000000 in
theorem name_calls (s:ByteArray) (hs:s.size≤1000000) (t:BitVec 256) (pos:Nat) (err place:Nat) (fin neg:Bool) (hp:pos+2≤s.size) (w:World):
 Calls Tryz.prog 121 #[.string s,.agg (stI t pos err place fin neg)] w fun e w'=>e=.returned (.agg (stA (nameR s (pos+2) ⟨t,pos,err,place,fin,neg⟩ (s.size - (pos+2)) (pos+2))))∧Below w.heap.size w w':=by
 have HX:=Lib.hid ((Blk.new w (stI t pos err place fin neg) 155).alloc (.cells (stI 0 0 0 0 false false) 155));have HR:=Blk.new (w.alloc (.cells (stI t pos err place fin neg) 155)) (stI 0 0 0 0 false false) 155;rw [World.size_alloc] at HR;replace HR:=Lib.hid HR;have HB:Hid (Below w.heap.size w ((w.alloc (.cells (stI t pos err place fin neg) 155)).alloc (.cells (stI 0 0 0 0 false false) 155))):=Lib.hid (by go_grown);have hz:w.heap.size+2≤((w.alloc (.cells (stI t pos err place fin neg) 155)).alloc (.cells (stI 0 0 0 0 false false) 155)).heap.size:=by simp
 have cx:=HX.out.cell 4;simp only [List.getElem?_toArray,List.getElem?_cons_zero,List.getElem?_cons_succ] at cx;generalize hr:nameR s (pos+2) ⟨t,pos,err,place,fin,neg⟩ (s.size - (pos+2)) (pos+2)=R;have HRES:=Lib.hid hr;clear hr;go_enter Tryz.func121,Tryz.ntmps121
 go_upto_region 2 with fail
 have e0:((w.alloc (.cells (stI t pos err place fin neg) 155)).alloc (.cells #[.int .u64 0,.int .u64 0,.int .u64 0,.int .u64 0,.int .i64 0,.int .i64 0,.int .i64 0,.bool false,.bool false] 155))=(w.alloc (.cells (stI t pos err place fin neg) 155)).alloc (.cells (stI 0 0 0 0 false false) 155):=rfl;rw [e0];clear e0 cx;generalize (w.alloc (.cells (stI t pos err place fin neg) 155)).alloc (.cells (stI 0 0 0 0 false false) 155)=w1 at*
 go_wp2_with fail
 go_loopw [6] (fun v wr=>∃j:Nat,pos+2≤j∧j≤s.size∧v=.int .i64 j∧nameR s (pos+2) ⟨t,pos,err,place,fin,neg⟩ (s.size - j) j=R∧Blk wr w.heap.size (stI t pos err place fin neg) 155∧Blk wr (w.heap.size+1) (stI 0 0 0 0 false false) 155∧Below w.heap.size w wr∧w.heap.size+2≤wr.heap.size) (fun v _=>s.size - (intOf v).toNat)
 case atStart=>exact ⟨pos+2,Nat.le_refl _,hp,by simp,HRES.out,HX.out,HR.out,HB.out,hz⟩
 case round=>
  clear HX HR HB HRES hz;obtain ⟨j,hj1,hj2,rfl,hres,hX,hR,hB,hz⟩:=hrel;have HX:=Lib.hid hX;have HR:=Lib.hid hR;have HB:=Lib.hid hB;clear hX hR hB
  by_cases hjl:j<s.size
  ·have b0:s[j].toNat=bt s j:=(bt_eq s j hjl).symm
   obtain ⟨n,hn⟩:∃n,s.size - j=n+1:=⟨s.size - j - 1,by omega⟩;have hn':n=s.size - (j+1):=by omega
   rw [hn] at hres;clear hn
   by_cases hc:bt s j=58
   ·rw [nameR_col _ _ _ _ _ hc] at hres
    have q:((bt s j:Int)==58)=true:=by rw [beq_iff_eq];omega
    have HOF:=Lib.hid (rOf_calls (s.extract (pos+2) j));clear hc hn';generalize ofS (s.extract (pos+2) j).toList=c at hres HOF;generalize ofB (s.extract (pos+2) j).toList=ok at hres HOF;have HRS:=Lib.hid hres;clear hres
    go_wp2_with fail
    refine (HOF.out _).mono ?_;rintro e w2 ⟨rfl,hb⟩;have hz:=Nat.le_trans hz hb.size;have HX2:=Lib.hid (HX.out.below hb (Blk.lt HX.out));have HR2:=Lib.hid (HR.out.below hb (Blk.lt HR.out));have HB2:=Lib.hid (HB.out.trans (hb.mono (by omega)));clear HX HR HB hb;have HX:=HX2;have HR:=HR2;have HB:=HB2;clear HX2 HR2 HB2;have HC:=Lib.hid (Blk.new w2 (setA c) 43);have hz2:=hz;replace HX:=Lib.hid (HX.out.alloc (.cells #[.int .u64 (wd c 0),.int .u64 (wd c 1),.int .u64 (wd c 2),.int .u64 (wd c 3)] 43));replace HR:=Lib.hid (HR.out.alloc (.cells #[.int .u64 (wd c 0),.int .u64 (wd c 1),.int .u64 (wd c 2),.int .u64 (wd c 3)] 43));replace HB:=Lib.hid (HB.out.alloc (by omega) (.cells #[.int .u64 (wd c 0),.int .u64 (wd c 1),.int .u64 (wd c 2),.int .u64 (wd c 3)] 43));have hz:w.heap.size+2≤(w2.alloc (.cells #[.int .u64 (wd c 0),.int .u64 (wd c 1),.int .u64 (wd c 2),.int .u64 (wd c 3)] 43)).heap.size:=by simp;omega
    cases ok with
    |false=>
     have HRES:=Lib.hid (show badR 5 (j+1)=R by rw [←HRS.out,if_pos rfl])
     go_wp2_with (first
      |(go_at_call 120;refine (badZ _ _ _).mono ?_;rintro e w' ⟨rfl,hb⟩;have hz:=Nat.le_trans hz hb.size;have HX2:=Lib.hid (HX.out.below hb (Blk.lt HX.out));have HR2:=Lib.hid (HR.out.below hb (Blk.lt HR.out));have HB2:=Lib.hid (HB.out.trans (hb.mono (by omega)));clear HX HR HB hb;have HX:=HX2;have HR:=HR2;have HB:=HB2;clear HX2 HR2 HB2)
      |((with_reducible refine wpList_store_st (o:=⟨none,.store 155 _ _,_,_,_,_⟩) rfl 155 _ _ rfl (w.heap.size+1) rfl rfl (run_storeAt_row _ (w.heap.size+1) 155 155 (stI 0 0 0 0 false false) (stI zSt 0 5 ((j:Int)+1) false false) ?_ ?_ ?_ ?_) ?_);exact HR.out;exact infoSt;rfl;exact st_one _ _ _ _ _ _))
     exact bodyPost_ret (v:=.agg (stI zSt 0 5 ((j:Int)+1) false false)) (results_cell_row rfl _ _ (w.heap.size+1) 155 (stI zSt 0 5 ((j:Int)+1) false false) (0,0) _ rfl (Blk.setRow HR.out) Tryz.underlying155 rfl infoSt) rfl ⟨by rw [←HRES.out]<;>rfl,below_row HB.out (by omega) _⟩
    |true=>
     by_cases h1:s.size≤j+1
     ·have q1:decide ((s.size:Int)≤(j:Int)+1)=true:=by rw [decide_eq_true_eq];omega
      have HRES:=Lib.hid (show badR 2 s.size=R by rw [←HRS.out,if_neg (by decide),if_pos h1])
      go_wp2_with (first
       |(go_at_call 120;refine (badZ _ _ _).mono ?_;rintro e w' ⟨rfl,hb⟩;have hz:=Nat.le_trans hz hb.size;have HX2:=Lib.hid (HX.out.below hb (Blk.lt HX.out));have HR2:=Lib.hid (HR.out.below hb (Blk.lt HR.out));have HB2:=Lib.hid (HB.out.trans (hb.mono (by omega)));clear HX HR HB hb;have HX:=HX2;have HR:=HR2;have HB:=HB2;clear HX2 HR2 HB2)
       |((with_reducible refine wpList_store_st (o:=⟨none,.store 155 _ _,_,_,_,_⟩) rfl 155 _ _ rfl (w.heap.size+1) rfl rfl (run_storeAt_row _ (w.heap.size+1) 155 155 (stI 0 0 0 0 false false) (stI zSt 0 2 (s.size:Int) false false) ?_ ?_ ?_ ?_) ?_);exact HR.out;exact infoSt;rfl;exact st_one _ _ _ _ _ _))
      exact bodyPost_ret (v:=.agg (stI zSt 0 2 (s.size:Int) false false)) (results_cell_row rfl _ _ (w.heap.size+1) 155 (stI zSt 0 2 (s.size:Int) false false) (0,0) _ rfl (Blk.setRow HR.out) Tryz.underlying155 rfl infoSt) rfl ⟨by rw [←HRES.out]<;>rfl,below_row HB.out (by omega) _⟩
     ·have q1:decide ((s.size:Int)≤(j:Int)+1)=false:=by rw [decide_eq_false_iff_not];omega
      have hlt1:j+1<s.size:=by omega
      have b1:s[j+1].toNat=bt s (j+1):=(bt_eq s (j+1) hlt1).symm
      by_cases h2:bt s (j+1)≠93
      ·have q2:((bt s (j+1):Int) !=93)=true:=by rw [bne_iff_ne];omega
       have HRES:=Lib.hid (show badR 3 (j+2)=R by rw [←HRS.out,if_neg (by decide),if_neg h1,if_pos h2])
       go_wp2_with (first
        |(go_at_call 120;refine (badZ _ _ _).mono ?_;rintro e w' ⟨rfl,hb⟩;have hz:=Nat.le_trans hz hb.size;have HX2:=Lib.hid (HX.out.below hb (Blk.lt HX.out));have HR2:=Lib.hid (HR.out.below hb (Blk.lt HR.out));have HB2:=Lib.hid (HB.out.trans (hb.mono (by omega)));clear HX HR HB hb;have HX:=HX2;have HR:=HR2;have HB:=HB2;clear HX2 HR2 HB2)
        |((with_reducible refine wpList_store_st (o:=⟨none,.store 155 _ _,_,_,_,_⟩) rfl 155 _ _ rfl (w.heap.size+1) rfl rfl (run_storeAt_row _ (w.heap.size+1) 155 155 (stI 0 0 0 0 false false) (stI zSt 0 3 ((j:Int)+2) false false) ?_ ?_ ?_ ?_) ?_);exact HR.out;exact infoSt;rfl;exact st_one _ _ _ _ _ _))
       exact bodyPost_ret (v:=.agg (stI zSt 0 3 ((j:Int)+2) false false)) (results_cell_row rfl _ _ (w.heap.size+1) 155 (stI zSt 0 3 ((j:Int)+2) false false) (0,0) _ rfl (Blk.setRow HR.out) Tryz.underlying155 rfl infoSt) rfl ⟨by rw [←HRES.out]<;>rfl,below_row HB.out (by omega) _⟩
      ·have q2:((bt s (j+1):Int) !=93)=false:=by have:bt s (j+1)=93:=Decidable.not_not.1 h2;rw [this];rfl
       have hrr:(⟨t|||c,j+2,err,place,fin,neg⟩:BR)=R:=by rw [←HRS.out,if_neg (by decide),if_neg h1,if_neg h2]
       have hor:=ror_calls t c;generalize t|||c=r at hrr hor
       have HRES:=Lib.hid hrr;have HOR:=Lib.hid hor;clear hrr hor;obtain ⟨⟨d0,d1,d2,d3⟩,_⟩:=(show Blk (w2.alloc (.cells #[.int .u64 (wd c 0),.int .u64 (wd c 1),.int .u64 (wd c 2),.int .u64 (wd c 3)] 43)) w2.heap.size (setA c) 43 from HC.out).cells4;have c0:=HX.out.cell 0;have c1:=HX.out.cell 1;have c2:=HX.out.cell 2;have c3:=HX.out.cell 3;simp only [List.getElem?_toArray,List.getElem?_cons_zero,List.getElem?_cons_succ] at c0 c1 c2 c3
       go_wp2_with fail
       refine (HOR.out _).mono ?_;rintro e w3 ⟨rfl,hb⟩;clear c0 c1 c2 c3 d0 d1 d2 d3;have hz:=Nat.le_trans hz hb.size;have HX2:=Lib.hid (HX.out.below hb (Blk.lt HX.out));have HR2:=Lib.hid (HR.out.below hb (Blk.lt HR.out));have HB2:=Lib.hid (HB.out.trans (hb.mono (by omega)));clear HX HR HB hb;have HX:=HX2;have HR:=HR2;have HB:=HB2;clear HX2 HR2 HB2;have c0:=HX.out.cell 0;have c1:=HX.out.cell 1;have c2:=HX.out.cell 2;have c3:=HX.out.cell 3;have c4:=HX.out.cell 4;simp only [List.getElem?_toArray,List.getElem?_cons_zero,List.getElem?_cons_succ] at c0 c1 c2 c3 c4;have f0:=HX.out.frozen 0;have f1:=HX.out.frozen 1;have f2:=HX.out.frozen 2;have f3:=HX.out.frozen 3;have f4:=HX.out.frozen 4;have HX5:=Lib.hid (((((HX.out.set 0 (.int .u64 (wd r 0))).set 1 (.int .u64 (wd r 1))).set 2 (.int .u64 (wd r 2))).set 3 (.int .u64 (wd r 3))).set 4 (.int .i64 ((j:Int)+2)):Blk _ _ (stI r ((j:Int)+2) err place fin neg) 155);have hne:w.heap.size+1≠w.heap.size:=by omega
       have HR5:=Lib.hid (((((HR.out.other hne 0 (.int .u64 (wd r 0))).other hne 1 (.int .u64 (wd r 1))).other hne 2 (.int .u64 (wd r 2))).other hne 3 (.int .u64 (wd r 3))).other hne 4 (.int .i64 ((j:Int)+2)));have HB5:=Lib.hid (below_set (below_set (below_set (below_set (below_set HB.out (Nat.le_refl _) 0 (.int .u64 (wd r 0))) (Nat.le_refl _) 1 (.int .u64 (wd r 1))) (Nat.le_refl _) 2 (.int .u64 (wd r 2))) (Nat.le_refl _) 3 (.int .u64 (wd r 3))) (Nat.le_refl _) 4 (.int .i64 ((j:Int)+2)));clear HR HB hne;have HR:=HR5;have HB:=HB5;clear HR5 HB5
       go_wp2_with (first
        |((with_reducible refine wpList_load_row (o:=⟨_,.load 155 _,_,_,_,_⟩) rfl 155 _ rfl w.heap.size rfl 155 (stI r ((j:Int)+2) err place fin neg) (0,0) _ ?_ Tryz.underlying155 rfl ?_ ?_);exact HX5.out;exact infoSt)
        |((with_reducible refine wpList_store_st (o:=⟨none,.store 155 _ _,_,_,_,_⟩) rfl 155 _ _ rfl (w.heap.size+1) rfl rfl (run_storeAt_row _ (w.heap.size+1) 155 155 (stI 0 0 0 0 false false) (stI r ((j:Int)+2) err place fin neg) ?_ ?_ ?_ ?_) ?_);exact HR.out;exact infoSt;rfl;exact st_one _ _ _ _ _ _))
       exact bodyPost_ret (v:=.agg (stI r ((j:Int)+2) err place fin neg)) (results_cell_row rfl _ _ (w.heap.size+1) 155 (stI r ((j:Int)+2) err place fin neg) (0,0) _ rfl (Blk.setRow HR.out) Tryz.underlying155 rfl infoSt) rfl ⟨by rw [←HRES.out]<;>rfl,below_row HB.out (by omega) _⟩
   ·rw [nameR_not _ _ _ _ _ hc] at hres
    have q:((bt s j:Int)==58)=false:=by rw [beq_eq_false_iff_ne];omega
    have HBE:=Lib.hid (rBegins_calls (s.extract (pos+2) (j+1)) (by simp;omega));clear hc
    cases hbb:begB (s.extract (pos+2) (j+1)) with
    |false=>
     rw [hbb] at hres HBE;rw [if_pos rfl] at hres;have HRES:=Lib.hid hres;clear hres hbb hn'
     go_wp2_with (first
      |(go_at_call 131;refine (HBE.out _).mono ?_;rintro e w' ⟨rfl,hb⟩;have hz:=Nat.le_trans hz hb.size;have HX2:=Lib.hid (HX.out.below hb (Blk.lt HX.out));have HR2:=Lib.hid (HR.out.below hb (Blk.lt HR.out));have HB2:=Lib.hid (HB.out.trans (hb.mono (by omega)));clear HX HR HB hb;have HX:=HX2;have HR:=HR2;have HB:=HB2;clear HX2 HR2 HB2)
      |(go_at_call 120;refine (badZ _ _ _).mono ?_;rintro e w' ⟨rfl,hb⟩;have hz:=Nat.le_trans hz hb.size;have HX2:=Lib.hid (HX.out.below hb (Blk.lt HX.out));have HR2:=Lib.hid (HR.out.below hb (Blk.lt HR.out));have HB2:=Lib.hid (HB.out.trans (hb.mono (by omega)));clear HX HR HB hb;have HX:=HX2;have HR:=HR2;have HB:=HB2;clear HX2 HR2 HB2)
      |((with_reducible refine wpList_store_st (o:=⟨none,.store 155 _ _,_,_,_,_⟩) rfl 155 _ _ rfl (w.heap.size+1) rfl rfl (run_storeAt_row _ (w.heap.size+1) 155 155 (stI 0 0 0 0 false false) (stI zSt 0 5 ((j:Int)+1) false false) ?_ ?_ ?_ ?_) ?_);exact HR.out;exact infoSt;rfl;exact st_one _ _ _ _ _ _))
     exact bodyPost_ret (v:=.agg (stI zSt 0 5 ((j:Int)+1) false false)) (results_cell_row rfl _ _ (w.heap.size+1) 155 (stI zSt 0 5 ((j:Int)+1) false false) (0,0) _ rfl (Blk.setRow HR.out) Tryz.underlying155 rfl infoSt) rfl ⟨by rw [←HRES.out]<;>rfl,below_row HB.out (by omega) _⟩
    |true=>
     rw [hbb] at hres HBE;rw [if_neg (by decide)] at hres;have HRES:=Lib.hid hres;clear hres hbb
     go_wp2_with (go_at_call 131;refine (HBE.out _).mono ?_;rintro e w' ⟨rfl,hb⟩;have hz:=Nat.le_trans hz hb.size;have HX2:=Lib.hid (HX.out.below hb (Blk.lt HX.out));have HR2:=Lib.hid (HR.out.below hb (Blk.lt HR.out));have HB2:=Lib.hid (HB.out.trans (hb.mono (by omega)));clear HX HR HB hb;have HX:=HX2;have HR:=HR2;have HB:=HB2;clear HX2 HR2 HB2)
     go_roundw
     case rel=>exact ⟨j+1,by omega,by omega,by simp,by rw [←hn'];exact HRES.out,HX.out,HR.out,HB.out,hz⟩
     case measure=>simp [intOf];omega
  ·obtain rfl:j=s.size:=by omega
   rw [Nat.sub_self] at hres;have HRES:=Lib.hid (show badR 2 s.size=R from hres);clear hres
   go_wp2_with (first
    |(go_at_call 120;refine (badZ _ _ _).mono ?_;rintro e w' ⟨rfl,hb⟩;have hz:=Nat.le_trans hz hb.size;have HX2:=Lib.hid (HX.out.below hb (Blk.lt HX.out));have HR2:=Lib.hid (HR.out.below hb (Blk.lt HR.out));have HB2:=Lib.hid (HB.out.trans (hb.mono (by omega)));clear HX HR HB hb;have HX:=HX2;have HR:=HR2;have HB:=HB2;clear HX2 HR2 HB2)
    |((with_reducible refine wpList_store_st (o:=⟨none,.store 155 _ _,_,_,_,_⟩) rfl 155 _ _ rfl (w.heap.size+1) rfl rfl (run_storeAt_row _ (w.heap.size+1) 155 155 (stI 0 0 0 0 false false) (stI zSt 0 2 (s.size:Int) false false) ?_ ?_ ?_ ?_) ?_);exact HR.out;exact infoSt;rfl;exact st_one _ _ _ _ _ _))
   exact bodyPost_ret (v:=.agg (stI zSt 0 2 (s.size:Int) false false)) (results_cell_row rfl _ _ (w.heap.size+1) 155 (stI zSt 0 2 (s.size:Int) false false) (0,0) _ rfl (Blk.setRow HR.out) Tryz.underlying155 rfl infoSt) rfl ⟨by rw [←HRES.out]<;>rfl,below_row HB.out (by omega) _⟩
set_option maxRecDepth 100000 in
set_option maxHeartbeats 16000000 in
theorem thing_calls (s:ByteArray) (hs:s.size≤1000000) (t:BitVec 256) (i:Nat) (err place:Nat) (fin neg first:Bool) (w:World):
 Calls Tryz.prog 111 #[.string s,.agg (stI t i err place fin neg),.bool first] w fun e w'=>e=.returned (.agg (stA (thingR s ⟨t,i,err,place,fin,neg⟩ first)))∧Below w.heap.size w w':=by
 have HX:=Lib.hid ((Blk.new w (stI t i err place fin neg) 155).alloc (.cells (stI 0 0 0 0 false false) 155));have HR:=Blk.new (w.alloc (.cells (stI t i err place fin neg) 155)) (stI 0 0 0 0 false false) 155;rw [World.size_alloc] at HR;replace HR:=Lib.hid HR;have HB:Hid (Below w.heap.size w ((w.alloc (.cells (stI t i err place fin neg) 155)).alloc (.cells (stI 0 0 0 0 false false) 155))):=Lib.hid (by go_grown);have hz:w.heap.size+2≤((w.alloc (.cells (stI t i err place fin neg) 155)).alloc (.cells (stI 0 0 0 0 false false) 155)).heap.size:=by simp
 have cx:=HX.out.cell 4;simp only [List.getElem?_toArray,List.getElem?_cons_zero,List.getElem?_cons_succ] at cx;go_enter Tryz.func111,Tryz.ntmps111
 go_upto_region 2 with fail
 have e0:((w.alloc (.cells (stI t i err place fin neg) 155)).alloc (.cells #[.int .u64 0,.int .u64 0,.int .u64 0,.int .u64 0,.int .i64 0,.int .i64 0,.int .i64 0,.bool false,.bool false] 155))=(w.alloc (.cells (stI t i err place fin neg) 155)).alloc (.cells (stI 0 0 0 0 false false) 155):=rfl;rw [e0];clear e0;generalize (w.alloc (.cells (stI t i err place fin neg) 155)).alloc (.cells (stI 0 0 0 0 false false) 155)=w1 at*
 by_cases hA:s.size≤i
 ·have q1:decide (s.size≤i)=true:=by simpa using hA
  have hres:thingR s ⟨t,i,err,place,fin,neg⟩ first=badR 2 s.size:=by unfold thingR;simp only [if_pos hA]
  have HRES:=Lib.hid hres;clear hres
  go_wp2_with (first
   |(go_at_call 120;refine (badZ _ _ _).mono ?_;rintro e w' ⟨rfl,hb⟩;have HX2:=Lib.hid (HX.out.below hb (Blk.lt HX.out));have HR2:=Lib.hid (HR.out.below hb (Blk.lt HR.out));have HB2:=Lib.hid (HB.out.trans (hb.mono (by omega)));clear HX HR HB hb;have HX:=HX2;have HR:=HR2;have HB:=HB2;clear HX2 HR2 HB2)
   |((with_reducible refine wpList_load_row (o:=⟨_,.load 155 _,_,_,_,_⟩) rfl 155 _ rfl w.heap.size rfl 155 (stI t i err place fin neg) (0,0) _ ?_ Tryz.underlying155 rfl ?_ ?_);exact HX.out;exact infoSt)
   |((with_reducible refine wpList_store_st (o:=⟨none,.store 155 _ _,_,_,_,_⟩) rfl 155 _ _ rfl (w.heap.size+1) rfl rfl (run_storeAt_row _ (w.heap.size+1) 155 155 (stI 0 0 0 0 false false) (stI zSt 0 2 (s.size:Int) false false) ?_ ?_ ?_ ?_) ?_);exact HR.out;exact infoSt;rfl;exact st_one _ _ _ _ _ _)
   )
  exact bodyPost_ret (v:=.agg (stI zSt 0 2 (s.size:Int) false false)) (results_cell_row rfl _ _ (w.heap.size+1) 155 (stI zSt 0 2 (s.size:Int) false false) (0,0) _ rfl (Blk.setRow HR.out) Tryz.underlying155 rfl infoSt) rfl ⟨by rw [HRES.out]<;>rfl,below_row HB.out (by omega) _⟩
 have hlt:i<s.size:=by omega
 have q1:decide (s.size≤i)=false:=by simpa using hA
 have b0:s[i].toNat=bt s i:=(bt_eq s i hlt).symm
 go_upto_region 5 with fail
 go_cut [27] from 22 to 26 (fun s27 wx=>s27=.bool (decide (bt s i=93∧first=false))∧w1=wx)
 case first=>
  cases hc:decide (bt s i=93) with
  |true=>
   have hc':bt s i=93:=of_decide_eq_true hc;have q:((bt s i:Int)==93)=true:=by rw [beq_iff_eq];omega
   have HC:=Lib.hid hc';clear hc hc'
   cases first<;>(go_wp2_with fail;go_meet;exact ⟨by simp [HC.out],rfl⟩)
  |false=>
   have hc':¬bt s i=93:=of_decide_eq_false hc;have q:((bt s i:Int)==93)=false:=by rw [beq_eq_false_iff_ne];omega
   have HC:=Lib.hid hc';clear hc hc'
   go_wp2_with fail
   go_meet
   exact ⟨by simp [HC.out],rfl⟩
 case rest=>
 obtain ⟨rfl,rfl⟩:=hcut
 by_cases hB:bt s i=93∧first=false
 ·have q2:decide (bt s i=93∧first=false)=true:=decide_eq_true hB
  have cf:=HX.out.cell 7;simp only [List.getElem?_toArray,List.getElem?_cons_zero,List.getElem?_cons_succ] at cf;have f7:=HX.out.frozen 7;have f4:=HX.out.frozen 4;have HX2:=Lib.hid (((HX.out.set 7 (.bool true)).set 4 (.int .i64 ((i:Int)+1)):Blk _ _ (stI t ((i:Int)+1) err place true neg) 155));have HR2:=Lib.hid ((HR.out.other (show w.heap.size+1≠w.heap.size by omega) 7 (.bool true)).other (show w.heap.size+1≠w.heap.size by omega) 4 (.int .i64 ((i:Int)+1)));have HB2:=Lib.hid (below_set (below_set HB.out (Nat.le_refl _) 7 (.bool true)) (Nat.le_refl _) 4 (.int .i64 ((i:Int)+1)));have hres:thingR s ⟨t,i,err,place,fin,neg⟩ first=⟨t,i+1,err,place,true,neg⟩:=by unfold thingR;simp only [if_neg hA,if_pos hB]
  have HRES:=Lib.hid hres;clear hres HX HR HB;have HR:=HR2;have HB:=HB2;clear HR2 HB2
  go_wp2_with (first
   |((with_reducible refine wpList_load_row (o:=⟨_,.load 155 _,_,_,_,_⟩) rfl 155 _ rfl w.heap.size rfl 155 (stI t ((i:Int)+1) err place true neg) (0,0) _ ?_ Tryz.underlying155 rfl ?_ ?_);exact HX2.out;exact infoSt)
   |((with_reducible refine wpList_store_st (o:=⟨none,.store 155 _ _,_,_,_,_⟩) rfl 155 _ _ rfl (w.heap.size+1) rfl rfl (run_storeAt_row _ (w.heap.size+1) 155 155 (stI 0 0 0 0 false false) (stI t ((i:Int)+1) err place true neg) ?_ ?_ ?_ ?_) ?_);exact HR.out;exact infoSt;rfl;exact st_one _ _ _ _ _ _))
  exact bodyPost_ret (v:=.agg (stI t ((i:Int)+1) err place true neg)) (results_cell_row rfl _ _ (w.heap.size+1) 155 (stI t ((i:Int)+1) err place true neg) (0,0) _ rfl (Blk.setRow HR.out) Tryz.underlying155 rfl infoSt) rfl ⟨by rw [HRES.out]<;>rfl,below_row HB.out (by omega) _⟩
 have q2:decide (bt s i=93∧first=false)=false:=decide_eq_false hB;rw [q2]
 by_cases hC:s.size≤i+1
 ·have q3:decide ((s.size:Int)≤(i:Int)+1)=true:=by rw [decide_eq_true_eq];omega
  have hres:thingR s ⟨t,i,err,place,fin,neg⟩ first=badR 2 s.size:=by unfold thingR;simp only [if_neg hA,if_neg hB,if_pos hC]
  have HRES:=Lib.hid hres;clear hres
  go_wp2_with (first
   |(go_at_call 120;refine (badZ _ _ _).mono ?_;rintro e w' ⟨rfl,hb⟩;have HX2:=Lib.hid (HX.out.below hb (Blk.lt HX.out));have HR2:=Lib.hid (HR.out.below hb (Blk.lt HR.out));have HB2:=Lib.hid (HB.out.trans (hb.mono (by omega)));clear HX HR HB hb;have HX:=HX2;have HR:=HR2;have HB:=HB2;clear HX2 HR2 HB2)
   |((with_reducible refine wpList_load_row (o:=⟨_,.load 155 _,_,_,_,_⟩) rfl 155 _ rfl w.heap.size rfl 155 (stI t i err place fin neg) (0,0) _ ?_ Tryz.underlying155 rfl ?_ ?_);exact HX.out;exact infoSt)
   |((with_reducible refine wpList_store_st (o:=⟨none,.store 155 _ _,_,_,_,_⟩) rfl 155 _ _ rfl (w.heap.size+1) rfl rfl (run_storeAt_row _ (w.heap.size+1) 155 155 (stI 0 0 0 0 false false) (stI zSt 0 2 (s.size:Int) false false) ?_ ?_ ?_ ?_) ?_);exact HR.out;exact infoSt;rfl;exact st_one _ _ _ _ _ _)
   )
  exact bodyPost_ret (v:=.agg (stI zSt 0 2 (s.size:Int) false false)) (results_cell_row rfl _ _ (w.heap.size+1) 155 (stI zSt 0 2 (s.size:Int) false false) (0,0) _ rfl (Blk.setRow HR.out) Tryz.underlying155 rfl infoSt) rfl ⟨by rw [HRES.out]<;>rfl,below_row HB.out (by omega) _⟩
 have q3:decide ((s.size:Int)≤(i:Int)+1)=false:=by rw [decide_eq_false_iff_not];omega
 have hlt1:i+1<s.size:=by omega
 have b1:s[i+1].toNat=bt s (i+1):=(bt_eq s (i+1) hlt1).symm
 go_upto_region 11 with fail
 go_cut [49] from 41 to 48 (fun s49 wx=>s49=.bool (decide (bt s i=91∧bt s (i+1)=58))∧w1=wx)
 case first=>
  by_cases hc:bt s i=91
  ·have q:((bt s i:Int)==91)=true:=by rw [beq_iff_eq];omega
   by_cases hd:bt s (i+1)=58
   ·have q':((bt s (i+1):Int)==58)=true:=by rw [beq_iff_eq];omega
    have HC:=Lib.hid hc;have HD:=Lib.hid hd;clear hc hd
    go_wp2_with fail
    go_meet
    exact ⟨by simp [HC.out,HD.out],rfl⟩
   ·have q':((bt s (i+1):Int)==58)=false:=by rw [beq_eq_false_iff_ne];omega
    have HC:=Lib.hid hc;have HD:=Lib.hid hd;clear hc hd
    go_wp2_with fail
    go_meet
    exact ⟨by simp [HD.out],rfl⟩
  ·have q:((bt s i:Int)==91)=false:=by rw [beq_eq_false_iff_ne];omega
   have HC:=Lib.hid hc;clear hc
   go_wp2_with fail
   go_meet
   exact ⟨by simp [HC.out],rfl⟩
 case rest=>
 obtain ⟨rfl,rfl⟩:=hcut
 by_cases hD:bt s i=91∧bt s (i+1)=58
 ·have q4:decide (bt s i=91∧bt s (i+1)=58)=true:=decide_eq_true hD
  have hnm:=name_calls s hs t i err place fin neg (by omega);generalize hR0:nameR s (i+2) ⟨t,i,err,place,fin,neg⟩ (s.size - (i+2)) (i+2)=R0 at hnm;have HNM:=Lib.hid hnm;clear hnm;have hres:thingR s ⟨t,i,err,place,fin,neg⟩ first=R0:=by unfold thingR;simp only [if_neg hA,if_neg hB,if_neg hC,if_pos hD];exact hR0
  have HRES:=Lib.hid hres;clear hres hR0;obtain ⟨t',i',err',place',fin',neg'⟩:=R0;replace HNM:Hid (∀w,Calls Tryz.prog 121 #[.string s,.agg (stI t i err place fin neg)] w fun e w'=>e=.returned (.agg (stI t' i' err' place' fin' neg'))∧Below w.heap.size w w'):=HNM
  go_wp2_with (first
   |(go_at_call 121;refine (HNM.out _).mono ?_;rintro e w' ⟨rfl,hb⟩;have HX2:=Lib.hid (HX.out.below hb (Blk.lt HX.out));have HR2:=Lib.hid (HR.out.below hb (Blk.lt HR.out));have HB2:=Lib.hid (HB.out.trans (hb.mono (by omega)));clear HX HR HB hb;have HX:=HX2;have HR:=HR2;have HB:=HB2;clear HX2 HR2 HB2)
   |((with_reducible refine wpList_load_row (o:=⟨_,.load 155 _,_,_,_,_⟩) rfl 155 _ rfl w.heap.size rfl 155 (stI t i err place fin neg) (0,0) _ ?_ Tryz.underlying155 rfl ?_ ?_);exact HX.out;exact infoSt)
   |((with_reducible refine wpList_store_st (o:=⟨none,.store 155 _ _,_,_,_,_⟩) rfl 155 _ _ rfl (w.heap.size+1) rfl rfl (run_storeAt_row _ (w.heap.size+1) 155 155 (stI 0 0 0 0 false false) (stI t' i' err' place' fin' neg') ?_ ?_ ?_ ?_) ?_);exact HR.out;exact infoSt;rfl;exact st_one _ _ _ _ _ _))
  exact bodyPost_ret (v:=.agg (stI t' i' err' place' fin' neg')) (results_cell_row rfl _ _ (w.heap.size+1) 155 (stI t' i' err' place' fin' neg') (0,0) _ rfl (Blk.setRow HR.out) Tryz.underlying155 rfl infoSt) rfl ⟨by rw [HRES.out]<;>rfl,below_row HB.out (by omega) _⟩
 have q4:decide (bt s i=91∧bt s (i+1)=58)=false:=decide_eq_false hD;rw [q4]
 go_upto_region 13 with fail
 go_cut [61] from 53 to 60 (fun s61 wx=>s61=.bool (decide (bt s i=91∧spec3 (bt s (i+1))=true))∧w1=wx)
 case first=>
  by_cases hc:bt s i=91
  ·have q:((bt s i:Int)==91)=true:=by rw [beq_iff_eq];omega
   have HC:=Lib.hid hc;clear hc
   go_wp2_with (go_at_call 122;refine (special_calls _ _).mono ?_;rintro e w' ⟨rfl,rfl⟩)
   go_meet
   exact ⟨by simp [HC.out],rfl⟩
  ·have q:((bt s i:Int)==91)=false:=by rw [beq_eq_false_iff_ne];omega
   have HC:=Lib.hid hc;clear hc
   go_wp2_with fail
   go_meet
   exact ⟨by simp [HC.out],rfl⟩
 case rest=>
 obtain ⟨rfl,rfl⟩:=hcut
 by_cases hE:bt s i=91∧spec3 (bt s (i+1))=true
 ·have q5:decide (bt s i=91∧spec3 (bt s (i+1))=true)=true:=decide_eq_true hE
  have hres:thingR s ⟨t,i,err,place,fin,neg⟩ first=badR 3 (i+2):=by unfold thingR;simp only [if_neg hA,if_neg hB,if_neg hC,if_neg hD,if_pos hE]
  have HRES:=Lib.hid hres;clear hres
  go_wp2_with (first
   |(go_at_call 120;refine (badZ _ _ _).mono ?_;rintro e w' ⟨rfl,hb⟩;have HX2:=Lib.hid (HX.out.below hb (Blk.lt HX.out));have HR2:=Lib.hid (HR.out.below hb (Blk.lt HR.out));have HB2:=Lib.hid (HB.out.trans (hb.mono (by omega)));clear HX HR HB hb;have HX:=HX2;have HR:=HR2;have HB:=HB2;clear HX2 HR2 HB2)
   |((with_reducible refine wpList_load_row (o:=⟨_,.load 155 _,_,_,_,_⟩) rfl 155 _ rfl w.heap.size rfl 155 (stI t i err place fin neg) (0,0) _ ?_ Tryz.underlying155 rfl ?_ ?_);exact HX.out;exact infoSt)
   |((with_reducible refine wpList_store_st (o:=⟨none,.store 155 _ _,_,_,_,_⟩) rfl 155 _ _ rfl (w.heap.size+1) rfl rfl (run_storeAt_row _ (w.heap.size+1) 155 155 (stI 0 0 0 0 false false) (stI zSt 0 3 ((i:Int)+2) false false) ?_ ?_ ?_ ?_) ?_);exact HR.out;exact infoSt;rfl;exact st_one _ _ _ _ _ _)
   )
  exact bodyPost_ret (v:=.agg (stI zSt 0 3 ((i:Int)+2) false false)) (results_cell_row rfl _ _ (w.heap.size+1) 155 (stI zSt 0 3 ((i:Int)+2) false false) (0,0) _ rfl (Blk.setRow HR.out) Tryz.underlying155 rfl infoSt) rfl ⟨by rw [HRES.out]<;>rfl,below_row HB.out (by omega) _⟩
 have q5:decide (bt s i=91∧spec3 (bt s (i+1))=true)=false:=decide_eq_false hE;rw [q5];have hbl:=bt_lt s i
 by_cases hF:bt s (i+1)≠45
 ·have q6:((bt s (i+1):Int) !=45)=true:=by rw [bne_iff_ne];omega
  have hadd:=add_calls t i err place fin neg (bt s i) (bt s i) hbl hbl ((i:Int)+1);generalize hR0:t|||range (bt s i) (bt s i)=t' at hadd
  have HAD:=Lib.hid hadd;clear hadd;have hre:addR ⟨t,i,err,place,fin,neg⟩ (bt s i) (bt s i) (i+1)=⟨t',i+1,err,place,fin,neg⟩:=by rw [←hR0];rfl
  have HRE:=Lib.hid hre;clear hre hR0;have hres:thingR s ⟨t,i,err,place,fin,neg⟩ first=⟨t',i+1,err,place,fin,neg⟩:=by unfold thingR;simp only [if_neg hA,if_neg hB,if_neg hC,if_neg hD,if_neg hE,if_pos hF];exact HRE.out
  have HRES:=Lib.hid hres;clear hres
  go_wp2_with (first
   |(go_at_call 123;refine (HAD.out _).mono ?_;rintro e w' ⟨rfl,hb⟩;have HX2:=Lib.hid (HX.out.below hb (Blk.lt HX.out));have HR2:=Lib.hid (HR.out.below hb (Blk.lt HR.out));have HB2:=Lib.hid (HB.out.trans (hb.mono (by omega)));clear HX HR HB hb;have HX:=HX2;have HR:=HR2;have HB:=HB2;clear HX2 HR2 HB2)
   |((with_reducible refine wpList_load_row (o:=⟨_,.load 155 _,_,_,_,_⟩) rfl 155 _ rfl w.heap.size rfl 155 (stI t i err place fin neg) (0,0) _ ?_ Tryz.underlying155 rfl ?_ ?_);exact HX.out;exact infoSt)
   |((with_reducible refine wpList_store_st (o:=⟨none,.store 155 _ _,_,_,_,_⟩) rfl 155 _ _ rfl (w.heap.size+1) rfl rfl (run_storeAt_row _ (w.heap.size+1) 155 155 (stI 0 0 0 0 false false) (stI t' ((i:Int)+1) err place fin neg) ?_ ?_ ?_ ?_) ?_);exact HR.out;exact infoSt;rfl;exact st_one _ _ _ _ _ _))
  exact bodyPost_ret (v:=.agg (stI t' ((i:Int)+1) err place fin neg)) (results_cell_row rfl _ _ (w.heap.size+1) 155 (stI t' ((i:Int)+1) err place fin neg) (0,0) _ rfl (Blk.setRow HR.out) Tryz.underlying155 rfl infoSt) rfl ⟨by rw [HRES.out]<;>rfl,below_row HB.out (by omega) _⟩
 have q6:((bt s (i+1):Int) !=45)=false:=by have:bt s (i+1)=45:=Decidable.not_not.1 hF;rw [this];rfl
 by_cases hG:s.size≤i+2
 ·have q7:decide ((s.size:Int)≤(i:Int)+2)=true:=by rw [decide_eq_true_eq];omega
  have hres:thingR s ⟨t,i,err,place,fin,neg⟩ first=badR 2 s.size:=by unfold thingR;simp only [if_neg hA,if_neg hB,if_neg hC,if_neg hD,if_neg hE,if_neg hF,if_pos hG]
  have HRES:=Lib.hid hres;clear hres
  go_wp2_with (first
   |(go_at_call 120;refine (badZ _ _ _).mono ?_;rintro e w' ⟨rfl,hb⟩;have HX2:=Lib.hid (HX.out.below hb (Blk.lt HX.out));have HR2:=Lib.hid (HR.out.below hb (Blk.lt HR.out));have HB2:=Lib.hid (HB.out.trans (hb.mono (by omega)));clear HX HR HB hb;have HX:=HX2;have HR:=HR2;have HB:=HB2;clear HX2 HR2 HB2)
   |((with_reducible refine wpList_load_row (o:=⟨_,.load 155 _,_,_,_,_⟩) rfl 155 _ rfl w.heap.size rfl 155 (stI t i err place fin neg) (0,0) _ ?_ Tryz.underlying155 rfl ?_ ?_);exact HX.out;exact infoSt)
   |((with_reducible refine wpList_store_st (o:=⟨none,.store 155 _ _,_,_,_,_⟩) rfl 155 _ _ rfl (w.heap.size+1) rfl rfl (run_storeAt_row _ (w.heap.size+1) 155 155 (stI 0 0 0 0 false false) (stI zSt 0 2 (s.size:Int) false false) ?_ ?_ ?_ ?_) ?_);exact HR.out;exact infoSt;rfl;exact st_one _ _ _ _ _ _)
   )
  exact bodyPost_ret (v:=.agg (stI zSt 0 2 (s.size:Int) false false)) (results_cell_row rfl _ _ (w.heap.size+1) 155 (stI zSt 0 2 (s.size:Int) false false) (0,0) _ rfl (Blk.setRow HR.out) Tryz.underlying155 rfl infoSt) rfl ⟨by rw [HRES.out]<;>rfl,below_row HB.out (by omega) _⟩
 have q7:decide ((s.size:Int)≤(i:Int)+2)=false:=by rw [decide_eq_false_iff_not];omega
 have hlt2:i+2<s.size:=by omega
 have b2:s[i+2].toNat=bt s (i+2):=(bt_eq s (i+2) hlt2).symm
 by_cases hH:bt s (i+2)=93
 ·have q8:((bt s (i+2):Int)==93)=true:=by rw [beq_iff_eq];omega
  have hadd:=add_calls t i err place fin neg (bt s i) (bt s i) hbl hbl ((i:Int)+1);generalize hR0:t|||range (bt s i) (bt s i)=t' at hadd
  have HAD:=Lib.hid hadd;clear hadd;have hre:addR ⟨t,i,err,place,fin,neg⟩ (bt s i) (bt s i) (i+1)=⟨t',i+1,err,place,fin,neg⟩:=by rw [←hR0];rfl
  have HRE:=Lib.hid hre;clear hre hR0;have HH:=Lib.hid hH;clear hH;have hres:thingR s ⟨t,i,err,place,fin,neg⟩ first=⟨t',i+1,err,place,fin,neg⟩:=by unfold thingR;simp only [if_neg hA,if_neg hB,if_neg hC,if_neg hD,if_neg hE,if_neg hF,if_neg hG,if_pos HH.out];exact HRE.out
  have HRES:=Lib.hid hres;clear hres
  go_wp2_with (first
   |(go_at_call 123;refine (HAD.out _).mono ?_;rintro e w' ⟨rfl,hb⟩;have HX2:=Lib.hid (HX.out.below hb (Blk.lt HX.out));have HR2:=Lib.hid (HR.out.below hb (Blk.lt HR.out));have HB2:=Lib.hid (HB.out.trans (hb.mono (by omega)));clear HX HR HB hb;have HX:=HX2;have HR:=HR2;have HB:=HB2;clear HX2 HR2 HB2)
   |((with_reducible refine wpList_load_row (o:=⟨_,.load 155 _,_,_,_,_⟩) rfl 155 _ rfl w.heap.size rfl 155 (stI t i err place fin neg) (0,0) _ ?_ Tryz.underlying155 rfl ?_ ?_);exact HX.out;exact infoSt)
   |((with_reducible refine wpList_store_st (o:=⟨none,.store 155 _ _,_,_,_,_⟩) rfl 155 _ _ rfl (w.heap.size+1) rfl rfl (run_storeAt_row _ (w.heap.size+1) 155 155 (stI 0 0 0 0 false false) (stI t' ((i:Int)+1) err place fin neg) ?_ ?_ ?_ ?_) ?_);exact HR.out;exact infoSt;rfl;exact st_one _ _ _ _ _ _))
  exact bodyPost_ret (v:=.agg (stI t' ((i:Int)+1) err place fin neg)) (results_cell_row rfl _ _ (w.heap.size+1) 155 (stI t' ((i:Int)+1) err place fin neg) (0,0) _ rfl (Blk.setRow HR.out) Tryz.underlying155 rfl infoSt) rfl ⟨by rw [HRES.out]<;>rfl,below_row HB.out (by omega) _⟩
 have q8:((bt s (i+2):Int)==93)=false:=by rw [beq_eq_false_iff_ne];omega
 have hyl:=bt_lt s (i+2)
 by_cases hI:bt s (i+2)<bt s i
 ·have q9:decide (bt s (i+2)<bt s i)=true:=by simpa using hI
  have hres:thingR s ⟨t,i,err,place,fin,neg⟩ first=badR 4 (i+3):=by unfold thingR;simp only [if_neg hA,if_neg hB,if_neg hC,if_neg hD,if_neg hE,if_neg hF,if_neg hG,if_neg hH,if_pos hI]
  have HRES:=Lib.hid hres;clear hres
  go_wp2_with (first
   |(go_at_call 120;refine (badZ _ _ _).mono ?_;rintro e w' ⟨rfl,hb⟩;have HX2:=Lib.hid (HX.out.below hb (Blk.lt HX.out));have HR2:=Lib.hid (HR.out.below hb (Blk.lt HR.out));have HB2:=Lib.hid (HB.out.trans (hb.mono (by omega)));clear HX HR HB hb;have HX:=HX2;have HR:=HR2;have HB:=HB2;clear HX2 HR2 HB2)
   |((with_reducible refine wpList_load_row (o:=⟨_,.load 155 _,_,_,_,_⟩) rfl 155 _ rfl w.heap.size rfl 155 (stI t i err place fin neg) (0,0) _ ?_ Tryz.underlying155 rfl ?_ ?_);exact HX.out;exact infoSt)
   |((with_reducible refine wpList_store_st (o:=⟨none,.store 155 _ _,_,_,_,_⟩) rfl 155 _ _ rfl (w.heap.size+1) rfl rfl (run_storeAt_row _ (w.heap.size+1) 155 155 (stI 0 0 0 0 false false) (stI zSt 0 4 ((i:Int)+3) false false) ?_ ?_ ?_ ?_) ?_);exact HR.out;exact infoSt;rfl;exact st_one _ _ _ _ _ _)
   )
  exact bodyPost_ret (v:=.agg (stI zSt 0 4 ((i:Int)+3) false false)) (results_cell_row rfl _ _ (w.heap.size+1) 155 (stI zSt 0 4 ((i:Int)+3) false false) (0,0) _ rfl (Blk.setRow HR.out) Tryz.underlying155 rfl infoSt) rfl ⟨by rw [HRES.out]<;>rfl,below_row HB.out (by omega) _⟩
 have q9:decide (bt s (i+2)<bt s i)=false:=by simpa using hI
 go_upto_region 24 with fail
 go_cut [114] from 106 to 113 (fun s114 wx=>s114=.bool (decide (bt s (i+2)=91∧s.size≤i+3))∧w1=wx)
 case first=>
  by_cases hc:bt s (i+2)=91
  ·have q:((bt s (i+2):Int)==91)=true:=by rw [beq_iff_eq];omega
   have HC:=Lib.hid hc;clear hc
   by_cases hd:s.size≤i+3
   ·have qd:decide ((s.size:Int)≤(i:Int)+3)=true:=by rw [decide_eq_true_eq];omega
    have HD:=Lib.hid hd;clear hd
    go_wp2_with fail
    go_meet
    exact ⟨by simp [HC.out,HD.out],rfl⟩
   ·have qd:decide ((s.size:Int)≤(i:Int)+3)=false:=by rw [decide_eq_false_iff_not];omega
    have HD:=Lib.hid hd;clear hd
    go_wp2_with fail
    go_meet
    exact ⟨by simp [HD.out],rfl⟩
  ·have q:((bt s (i+2):Int)==91)=false:=by rw [beq_eq_false_iff_ne];omega
   have HC:=Lib.hid hc;clear hc
   go_wp2_with fail
   go_meet
   exact ⟨by simp [HC.out],rfl⟩
 case rest=>
 obtain ⟨rfl,rfl⟩:=hcut
 by_cases hJ:bt s (i+2)=91∧s.size≤i+3
 ·have q10:decide (bt s (i+2)=91∧s.size≤i+3)=true:=decide_eq_true hJ
  have hres:thingR s ⟨t,i,err,place,fin,neg⟩ first=badR 2 s.size:=by unfold thingR;simp only [if_neg hA,if_neg hB,if_neg hC,if_neg hD,if_neg hE,if_neg hF,if_neg hG,if_neg hH,if_neg hI,if_pos hJ]
  have HRES:=Lib.hid hres;clear hres
  go_wp2_with (first
   |(go_at_call 120;refine (badZ _ _ _).mono ?_;rintro e w' ⟨rfl,hb⟩;have HX2:=Lib.hid (HX.out.below hb (Blk.lt HX.out));have HR2:=Lib.hid (HR.out.below hb (Blk.lt HR.out));have HB2:=Lib.hid (HB.out.trans (hb.mono (by omega)));clear HX HR HB hb;have HX:=HX2;have HR:=HR2;have HB:=HB2;clear HX2 HR2 HB2)
   |((with_reducible refine wpList_load_row (o:=⟨_,.load 155 _,_,_,_,_⟩) rfl 155 _ rfl w.heap.size rfl 155 (stI t i err place fin neg) (0,0) _ ?_ Tryz.underlying155 rfl ?_ ?_);exact HX.out;exact infoSt)
   |((with_reducible refine wpList_store_st (o:=⟨none,.store 155 _ _,_,_,_,_⟩) rfl 155 _ _ rfl (w.heap.size+1) rfl rfl (run_storeAt_row _ (w.heap.size+1) 155 155 (stI 0 0 0 0 false false) (stI zSt 0 2 (s.size:Int) false false) ?_ ?_ ?_ ?_) ?_);exact HR.out;exact infoSt;rfl;exact st_one _ _ _ _ _ _)
   )
  exact bodyPost_ret (v:=.agg (stI zSt 0 2 (s.size:Int) false false)) (results_cell_row rfl _ _ (w.heap.size+1) 155 (stI zSt 0 2 (s.size:Int) false false) (0,0) _ rfl (Blk.setRow HR.out) Tryz.underlying155 rfl infoSt) rfl ⟨by rw [HRES.out]<;>rfl,below_row HB.out (by omega) _⟩
 have q10:decide (bt s (i+2)=91∧s.size≤i+3)=false:=decide_eq_false hJ;rw [q10]
 go_upto_region 26 with fail
 go_cut [126] from 118 to 125 (fun s126 wx=>s126=.bool (decide (bt s (i+2)=91∧spec3 (bt s (i+3))=true))∧w1=wx)
 case first=>
  by_cases hc:bt s (i+2)=91
  ·have hlt3:i+3<s.size:=Nat.lt_of_not_le (fun h=>hJ ⟨hc,h⟩)
   have b3:s[i+3].toNat=bt s (i+3):=(bt_eq s (i+3) hlt3).symm;have q:((bt s (i+2):Int)==91)=true:=by rw [beq_iff_eq];omega
   have HC:=Lib.hid hc;clear hc
   go_wp2_with (go_at_call 122;refine (special_calls _ _).mono ?_;rintro e w' ⟨rfl,rfl⟩)
   go_meet
   exact ⟨by simp [HC.out],rfl⟩
  ·have q:((bt s (i+2):Int)==91)=false:=by rw [beq_eq_false_iff_ne];omega
   have HC:=Lib.hid hc;clear hc
   go_wp2_with fail
   go_meet
   exact ⟨by simp [HC.out],rfl⟩
 case rest=>
 obtain ⟨rfl,rfl⟩:=hcut
 by_cases hK:bt s (i+2)=91∧spec3 (bt s (i+3))=true
 ·have q11:decide (bt s (i+2)=91∧spec3 (bt s (i+3))=true)=true:=decide_eq_true hK
  have hres:thingR s ⟨t,i,err,place,fin,neg⟩ first=badR 3 (i+4):=by unfold thingR;simp only [if_neg hA,if_neg hB,if_neg hC,if_neg hD,if_neg hE,if_neg hF,if_neg hG,if_neg hH,if_neg hI,if_neg hJ,if_pos hK]
  have HRES:=Lib.hid hres;clear hres
  go_wp2_with (first
   |(go_at_call 120;refine (badZ _ _ _).mono ?_;rintro e w' ⟨rfl,hb⟩;have HX2:=Lib.hid (HX.out.below hb (Blk.lt HX.out));have HR2:=Lib.hid (HR.out.below hb (Blk.lt HR.out));have HB2:=Lib.hid (HB.out.trans (hb.mono (by omega)));clear HX HR HB hb;have HX:=HX2;have HR:=HR2;have HB:=HB2;clear HX2 HR2 HB2)
   |((with_reducible refine wpList_load_row (o:=⟨_,.load 155 _,_,_,_,_⟩) rfl 155 _ rfl w.heap.size rfl 155 (stI t i err place fin neg) (0,0) _ ?_ Tryz.underlying155 rfl ?_ ?_);exact HX.out;exact infoSt)
   |((with_reducible refine wpList_store_st (o:=⟨none,.store 155 _ _,_,_,_,_⟩) rfl 155 _ _ rfl (w.heap.size+1) rfl rfl (run_storeAt_row _ (w.heap.size+1) 155 155 (stI 0 0 0 0 false false) (stI zSt 0 3 ((i:Int)+4) false false) ?_ ?_ ?_ ?_) ?_);exact HR.out;exact infoSt;rfl;exact st_one _ _ _ _ _ _)
   )
  exact bodyPost_ret (v:=.agg (stI zSt 0 3 ((i:Int)+4) false false)) (results_cell_row rfl _ _ (w.heap.size+1) 155 (stI zSt 0 3 ((i:Int)+4) false false) (0,0) _ rfl (Blk.setRow HR.out) Tryz.underlying155 rfl infoSt) rfl ⟨by rw [HRES.out]<;>rfl,below_row HB.out (by omega) _⟩
 have q11:decide (bt s (i+2)=91∧spec3 (bt s (i+3))=true)=false:=decide_eq_false hK;rw [q11];have hadd:=add_calls t i err place fin neg (bt s i) (bt s (i+2)) hbl hyl ((i:Int)+3);generalize hR0:t|||range (bt s i) (bt s (i+2))=t' at hadd
 have HAD:=Lib.hid hadd;clear hadd;have hre:addR ⟨t,i,err,place,fin,neg⟩ (bt s i) (bt s (i+2)) (i+3)=⟨t',i+3,err,place,fin,neg⟩:=by rw [←hR0];rfl
 have HRE:=Lib.hid hre;clear hre hR0;have hres:thingR s ⟨t,i,err,place,fin,neg⟩ first=⟨t',i+3,err,place,fin,neg⟩:=by unfold thingR;simp only [if_neg hA,if_neg hB,if_neg hC,if_neg hD,if_neg hE,if_neg hF,if_neg hG,if_neg hH,if_neg hI,if_neg hJ,if_neg hK];exact HRE.out
 have HRES:=Lib.hid hres;clear hres
 go_wp2_with (first
  |(go_at_call 123;refine (HAD.out _).mono ?_;rintro e w' ⟨rfl,hb⟩;have HX2:=Lib.hid (HX.out.below hb (Blk.lt HX.out));have HR2:=Lib.hid (HR.out.below hb (Blk.lt HR.out));have HB2:=Lib.hid (HB.out.trans (hb.mono (by omega)));clear HX HR HB hb;have HX:=HX2;have HR:=HR2;have HB:=HB2;clear HX2 HR2 HB2)
  |((with_reducible refine wpList_load_row (o:=⟨_,.load 155 _,_,_,_,_⟩) rfl 155 _ rfl w.heap.size rfl 155 (stI t i err place fin neg) (0,0) _ ?_ Tryz.underlying155 rfl ?_ ?_);exact HX.out;exact infoSt)
  |((with_reducible refine wpList_store_st (o:=⟨none,.store 155 _ _,_,_,_,_⟩) rfl 155 _ _ rfl (w.heap.size+1) rfl rfl (run_storeAt_row _ (w.heap.size+1) 155 155 (stI 0 0 0 0 false false) (stI t' ((i:Int)+3) err place fin neg) ?_ ?_ ?_ ?_) ?_);exact HR.out;exact infoSt;rfl;exact st_one _ _ _ _ _ _))
 exact bodyPost_ret (v:=.agg (stI t' ((i:Int)+3) err place fin neg)) (results_cell_row rfl _ _ (w.heap.size+1) 155 (stI t' ((i:Int)+3) err place fin neg) (0,0) _ rfl (Blk.setRow HR.out) Tryz.underlying155 rfl infoSt) rfl ⟨by rw [HRES.out]<;>rfl,below_row HB.out (by omega) _⟩
end Go.Proofs.YtbccojjcdcighaaGreatDoor

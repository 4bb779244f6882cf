/- Texts put together: Ci Md. -/
import Derived.Test.YtbccojjcdcighaaGreatDoorQR
import Derived.Deep.DeepCutAuto
import Derived.Lib.Hide
import Derived.Test.YtbccojjcdcighaaGreatDoorQS
import Derived.Test.YtbccojjcdcighaaGreatDoorQL
import Derived.Test.YtbccojjcdcighaaGreatDoorQO
import Derived.Test.YtbccojjcdcighaaGreatDoorQG
namespace Go.Proofs.YtbccojjcdcighaaGreatDoor
open Go.RowKit Go.Shelf BS
def inB (b lo hi:Int):Bool:=decide (lo≤b) && decide (b≤hi)
def alB (b:Int):Bool:=inB b 65 90||inB b 97 122
def dgB (b:Int):Bool:=inB b 48 57
def isC (l:List UInt8) (b:Int):Bool:=
 if l=[97,108,110,117,109] then (alB b||dgB b) else
 if l=[97,108,112,104,97] then alB b else
 if l=[98,108,97,110,107] then (b==9||b==32) else
 if l=[99,110,116,114,108] then (inB b 0 31||b==127) else
 if l=[100,105,103,105,116] then dgB b else
 if l=[103,114,97,112,104] then inB b 33 126 else
 if l=[108,111,119,101,114] then inB b 97 122 else
 if l=[112,114,105,110,116] then inB b 32 126 else
 if l=[112,117,110,99,116] then (inB b 33 126 && !alB b && !dgB b) else
 if l=[115,112,97,99,101] then (inB b 9 13||b==32) else
 if l=[117,112,112,101,114] then inB b 65 90 else
 if l=[120,100,105,103,105,116] then (dgB b||inB b 65 70||inB b 97 102) else
 false
set_option maxHeartbeats 1000000 in
theorem in_calls (b lo hi:Int) (w:World):Calls Tryz.prog 140 #[.int .i64 b,.int .i64 lo,.int .i64 hi] w fun e w'=>e=.returned (.bool (inB b lo hi))∧w=w':=by
 unfold inB
 by_cases h1:lo≤b
 ·have q1:decide (lo≤b)=true:=by simpa using h1
  rw [q1];go_enter Tryz.func140,Tryz.ntmps140
  go_wp2
  go_ret;exact ⟨by simp,rfl⟩
 ·have q1:decide (lo≤b)=false:=by simpa using h1
  rw [q1];go_enter Tryz.func140,Tryz.ntmps140
  go_wp2
  go_ret;exact ⟨by simp,rfl⟩
set_option maxRecDepth 100000 in
set_option maxHeartbeats 8000000 in
theorem is_calls (name:ByteArray) (b:Int) (w:World):Calls Tryz.prog 137 #[.string name,.int .i64 b] w fun e w'=>e=.returned (.bool (isC name.toList b))∧w=w':=by
 go_enter Tryz.func137,Tryz.ntmps137
 go_upto_region 1 with fail
 go_cut [5,6] (fun s5 s6 wx=>s5=.bool (alB b)∧s6=.bool (dgB b)∧w=wx)
 case first=>
  have HA:=Lib.hid (show alB b=(inB b 65 90||inB b 97 122) from rfl);have HD:=Lib.hid (show dgB b=inB b 48 57 from rfl)
  cases h1:inB b 65 90<;>(go_wp2_with (go_at_call 140;refine (in_calls _ _ _ _).mono ?_;rintro e w' ⟨rfl,rfl⟩))<;>(go_meet;exact ⟨by rw [HA.out,h1]<;>simp,by rw [HD.out],rfl⟩)
 case rest=>
  obtain ⟨rfl,rfl,rfl⟩:=hcut;generalize hA:alB b=A;generalize hD:dgB b=D;have HA:=Lib.hid hA;have HD:=Lib.hid hD;clear hA hD
  by_cases n0:name.toList=[97,108,110,117,109]
  ·have t0:(name.toList==[97,108,110,117,109])=true:=by rw [n0];rfl
   have HN:=Lib.hid n0;have hres:isC name.toList b=(A||D):=by rw [n0];simp only [isC,←HA.out,←HD.out];rfl
   have HR:=Lib.hid hres;clear n0 hres
   cases A<;>cases D<;>(go_wp2_with (go_at_call 140;refine (in_calls _ _ _ _).mono ?_;rintro e w' ⟨rfl,rfl⟩))<;>(go_ret;exact ⟨by rw [HR.out]<;>(first|rfl|simp [*]),rfl⟩)
  have t0:(name.toList==[97,108,110,117,109])=false:=by simpa using n0
  have N0:=Lib.hid n0;clear n0
  by_cases n1:name.toList=[97,108,112,104,97]
  ·have t1:(name.toList==[97,108,112,104,97])=true:=by rw [n1];rfl
   have HN:=Lib.hid n1;have hres:isC name.toList b=A:=by rw [n1];simp only [isC,←HA.out];rfl
   have HR:=Lib.hid hres;clear n1 hres
   (go_wp2_with (go_at_call 140;refine (in_calls _ _ _ _).mono ?_;rintro e w' ⟨rfl,rfl⟩))<;>(go_ret;exact ⟨by rw [HR.out]<;>(first|rfl|simp [*]),rfl⟩)
  have t1:(name.toList==[97,108,112,104,97])=false:=by simpa using n1
  have N1:=Lib.hid n1;clear n1
  by_cases n2:name.toList=[98,108,97,110,107]
  ·have t2:(name.toList==[98,108,97,110,107])=true:=by rw [n2];rfl
   have HN:=Lib.hid n2;have hres:isC name.toList b=(b==9||b==32):=by rw [n2];rfl
   have HR:=Lib.hid hres;clear n2 hres
   cases q1:(b==9)<;>(go_wp2_with (go_at_call 140;refine (in_calls _ _ _ _).mono ?_;rintro e w' ⟨rfl,rfl⟩))<;>(go_ret;exact ⟨by rw [HR.out]<;>(first|rfl|simp [*]),rfl⟩)
  have t2:(name.toList==[98,108,97,110,107])=false:=by simpa using n2
  have N2:=Lib.hid n2;clear n2
  by_cases n3:name.toList=[99,110,116,114,108]
  ·have t3:(name.toList==[99,110,116,114,108])=true:=by rw [n3];rfl
   have HN:=Lib.hid n3;have hres:isC name.toList b=(inB b 0 31||b==127):=by rw [n3];rfl
   have HR:=Lib.hid hres;clear n3 hres
   cases q1:inB b 0 31<;>(go_wp2_with (go_at_call 140;refine (in_calls _ _ _ _).mono ?_;rintro e w' ⟨rfl,rfl⟩))<;>(go_ret;exact ⟨by rw [HR.out]<;>(first|rfl|simp [*]),rfl⟩)
  have t3:(name.toList==[99,110,116,114,108])=false:=by simpa using n3
  have N3:=Lib.hid n3;clear n3
  by_cases n4:name.toList=[100,105,103,105,116]
  ·have t4:(name.toList==[100,105,103,105,116])=true:=by rw [n4];rfl
   have HN:=Lib.hid n4;have hres:isC name.toList b=D:=by rw [n4];simp only [isC,←HD.out];rfl
   have HR:=Lib.hid hres;clear n4 hres
   (go_wp2_with (go_at_call 140;refine (in_calls _ _ _ _).mono ?_;rintro e w' ⟨rfl,rfl⟩))<;>(go_ret;exact ⟨by rw [HR.out]<;>(first|rfl|simp [*]),rfl⟩)
  have t4:(name.toList==[100,105,103,105,116])=false:=by simpa using n4
  have N4:=Lib.hid n4;clear n4
  by_cases n5:name.toList=[103,114,97,112,104]
  ·have t5:(name.toList==[103,114,97,112,104])=true:=by rw [n5];rfl
   have HN:=Lib.hid n5;have hres:isC name.toList b=inB b 33 126:=by rw [n5];rfl
   have HR:=Lib.hid hres;clear n5 hres
   (go_wp2_with (go_at_call 140;refine (in_calls _ _ _ _).mono ?_;rintro e w' ⟨rfl,rfl⟩))<;>(go_ret;exact ⟨by rw [HR.out]<;>(first|rfl|simp [*]),rfl⟩)
  have t5:(name.toList==[103,114,97,112,104])=false:=by simpa using n5
  have N5:=Lib.hid n5;clear n5
  by_cases n6:name.toList=[108,111,119,101,114]
  ·have t6:(name.toList==[108,111,119,101,114])=true:=by rw [n6];rfl
   have HN:=Lib.hid n6;have hres:isC name.toList b=inB b 97 122:=by rw [n6];rfl
   have HR:=Lib.hid hres;clear n6 hres
   (go_wp2_with (go_at_call 140;refine (in_calls _ _ _ _).mono ?_;rintro e w' ⟨rfl,rfl⟩))<;>(go_ret;exact ⟨by rw [HR.out]<;>(first|rfl|simp [*]),rfl⟩)
  have t6:(name.toList==[108,111,119,101,114])=false:=by simpa using n6
  have N6:=Lib.hid n6;clear n6
  by_cases n7:name.toList=[112,114,105,110,116]
  ·have t7:(name.toList==[112,114,105,110,116])=true:=by rw [n7];rfl
   have HN:=Lib.hid n7;have hres:isC name.toList b=inB b 32 126:=by rw [n7];rfl
   have HR:=Lib.hid hres;clear n7 hres
   (go_wp2_with (go_at_call 140;refine (in_calls _ _ _ _).mono ?_;rintro e w' ⟨rfl,rfl⟩))<;>(go_ret;exact ⟨by rw [HR.out]<;>(first|rfl|simp [*]),rfl⟩)
  have t7:(name.toList==[112,114,105,110,116])=false:=by simpa using n7
  have N7:=Lib.hid n7;clear n7
  by_cases n8:name.toList=[112,117,110,99,116]
  ·have t8:(name.toList==[112,117,110,99,116])=true:=by rw [n8];rfl
   have HN:=Lib.hid n8;have hres:isC name.toList b=(inB b 33 126 && !A && !D):=by rw [n8];simp only [isC,←HA.out,←HD.out];rfl
   have HR:=Lib.hid hres;clear n8 hres
   cases q1:inB b 33 126<;>cases A<;>cases D<;>(go_wp2_with (go_at_call 140;refine (in_calls _ _ _ _).mono ?_;rintro e w' ⟨rfl,rfl⟩))<;>(go_ret;exact ⟨by rw [HR.out]<;>(first|rfl|simp [*]),rfl⟩)
  have t8:(name.toList==[112,117,110,99,116])=false:=by simpa using n8
  have N8:=Lib.hid n8;clear n8
  by_cases n9:name.toList=[115,112,97,99,101]
  ·have t9:(name.toList==[115,112,97,99,101])=true:=by rw [n9];rfl
   have HN:=Lib.hid n9;have hres:isC name.toList b=(inB b 9 13||b==32):=by rw [n9];rfl
   have HR:=Lib.hid hres;clear n9 hres
   cases q1:inB b 9 13<;>(go_wp2_with (go_at_call 140;refine (in_calls _ _ _ _).mono ?_;rintro e w' ⟨rfl,rfl⟩))<;>(go_ret;exact ⟨by rw [HR.out]<;>(first|rfl|simp [*]),rfl⟩)
  have t9:(name.toList==[115,112,97,99,101])=false:=by simpa using n9
  have N9:=Lib.hid n9;clear n9
  by_cases n10:name.toList=[117,112,112,101,114]
  ·have t10:(name.toList==[117,112,112,101,114])=true:=by rw [n10];rfl
   have HN:=Lib.hid n10;have hres:isC name.toList b=inB b 65 90:=by rw [n10];rfl
   have HR:=Lib.hid hres;clear n10 hres
   (go_wp2_with (go_at_call 140;refine (in_calls _ _ _ _).mono ?_;rintro e w' ⟨rfl,rfl⟩))<;>(go_ret;exact ⟨by rw [HR.out]<;>(first|rfl|simp [*]),rfl⟩)
  have t10:(name.toList==[117,112,112,101,114])=false:=by simpa using n10
  have N10:=Lib.hid n10;clear n10
  by_cases n11:name.toList=[120,100,105,103,105,116]
  ·have t11:(name.toList==[120,100,105,103,105,116])=true:=by rw [n11];rfl
   have HN:=Lib.hid n11;have hres:isC name.toList b=(D||inB b 65 70||inB b 97 102):=by rw [n11];simp only [isC,←HD.out];rfl
   have HR:=Lib.hid hres;clear n11 hres
   cases D<;>cases q1:inB b 65 70<;>(go_wp2_with (go_at_call 140;refine (in_calls _ _ _ _).mono ?_;rintro e w' ⟨rfl,rfl⟩))<;>(go_ret;exact ⟨by rw [HR.out]<;>(first|rfl|simp [*]),rfl⟩)
  have t11:(name.toList==[120,100,105,103,105,116])=false:=by simpa using n11
  have N11:=Lib.hid n11;clear n11;have hres:isC name.toList b=false:=by unfold isC;rw [if_neg N0.out,if_neg N1.out,if_neg N2.out,if_neg N3.out,if_neg N4.out,if_neg N5.out,if_neg N6.out,if_neg N7.out,if_neg N8.out,if_neg N9.out,if_neg N10.out,if_neg N11.out]
  have HR:=Lib.hid hres;clear hres
  go_wp2
  go_ret;exact ⟨by rw [HR.out]<;>rfl,rfl⟩
end Go.Proofs.YtbccojjcdcighaaGreatDoor

namespace Go.Proofs.YtbccojjcdcighaaGreatDoor
open Go.RowKit
theorem rightN_true (n m:Int) (h:rightN n m=true):0≤n∧n≤99∧(m= -1∨(n≤m∧m≤99)):=by
 unfold rightN at h;simp only [Bool.and_eq_true,Bool.or_eq_true,decide_eq_true_eq,beq_iff_eq] at h
 omega
theorem digL_le (n:Nat):(digL n).length≤2:=by unfold digL;split<;>simp
set_option maxRecDepth 100000 in
set_option maxHeartbeats 8000000 in
theorem bText_calls (n m:Int) (w:World):Calls Tryz.prog 59 #[.int .i64 n,.int .i64 m] w fun e w'=>e=.returned (.string (ofT (textN n m)))∧Below w.heap.size w w':=by
 have hS:=Blk.new w (spI n m) 121;have hB:Below w.heap.size w (w.alloc (.cells (spI n m) 121)):=by go_grown
 have hz:w.heap.size+1≤(w.alloc (.cells (spI n m) 121)).heap.size:=by simp
 have HSG:=Lib.hid signs_calls;have hg:textN n m=textN n m:=rfl
 conv at hg=>rhs;unfold textN
 have hRI:=right_calls n m
 cases hr:rightN n m with
 |false=>
  rw [hr,if_pos rfl] at hg;rw [hr] at hRI;rw [hg];have HRI:=Lib.hid hRI;clear hg hr hRI;go_enter Tryz.func59,Tryz.ntmps59
  go_wp2_with fail
  refine (HRI.out _).mono ?_;rintro e w2 ⟨rfl,hb⟩;have hB2:=hB.trans (hb.mono (Nat.le_of_succ_le hz));clear hB hb hS hz HRI HSG
  go_wp2_with fail
  go_ret;exact ⟨rfl,hB2⟩
 |true=>
  rw [hr,if_neg (by decide)] at hg;rw [hr] at hRI;have HRI:=Lib.hid hRI;obtain ⟨r0,r1,r2⟩:=rightN_true n m hr;generalize textN n m=Y at*;have HG:=Lib.hid hg;clear hg hr hRI;go_enter Tryz.func59,Tryz.ntmps59
  go_wp2_with fail
  refine (HRI.out _).mono ?_;rintro e w2 ⟨rfl,hb⟩;have hS2:=hS.below hb hS.lt;have hB2:=hB.trans (hb.mono (Nat.le_of_succ_le hz));have hz2:=Nat.le_trans hz hb.size;clear hB hb hS hz HRI
  go_wp2_with fail
  refine (HSG.out _).mono ?_;rintro e w3 ⟨rfl,hb⟩;have hS3:=hS2.below hb hS2.lt;have hB3:=hB2.trans (hb.mono (Nat.le_of_succ_le hz2));have hz3:=Nat.le_trans hz2 hb.size;clear hB2 hb hS2 hz2 HSG
  go_wp2_with fail
  go_loopw [15] (fun x wr=>∃k:Nat,k≤3∧x=.int .i64 k∧(1≤k→¬(n=0∧m= -1))∧(2≤k→¬(n=1∧m= -1))∧(3≤k→¬(n=0∧m=1))∧Blk wr w.heap.size (spI n m) 121∧Below w.heap.size w wr∧w.heap.size+1≤wr.heap.size) (fun x _=>3 - (intOf x).toNat)
  case atStart=>exact ⟨0,by omega,rfl,fun h=>by omega,fun h=>by omega,fun h=>by omega,hS3,hB3,hz3⟩
  case round=>
   clear hS3 hB3 hz3;obtain ⟨k,hk,rfl,k1,k2,k3,hS,hB,hz⟩:=hrel;rcases (by omega:k=0∨k=1∨k=2∨k=3) with rfl|rfl|rfl|rfl
   ·have hX:=Blk.new wr #[.int .u8 42,.int .i64 0,.int .i64 (-1)] 124
    have hS2:=hS.alloc (.cells #[.int .u8 42,.int .i64 0,.int .i64 (-1)] 124);have hB2:=hB.alloc (by omega) (.cells #[.int .u8 42,.int .i64 0,.int .i64 (-1)] 124);have hz2:w.heap.size+1≤(wr.alloc (.cells #[.int .u8 42,.int .i64 0,.int .i64 (-1)] 124)).heap.size:=by simp;omega
    clear hS hB;have hix:∀w',(Instr.index 125 (.agg sgI) (.int .i64 0)).run Tryz.prog w'=.ok (.agg #[.int .u8 42,.int .i64 0,.int .i64 (-1)]) w':=fun w'=>by kernel_rfl
    go_upto_region 7 with fail
    clear hix;generalize wr.alloc (.cells #[.int .u8 42,.int .i64 0,.int .i64 (-1)] 124)=w5 at*;generalize wr.heap.size=B at*;have c0:=hX.cell 0;have c1:=hX.cell 1;have c2:=hX.cell 2;have d0:=hS2.cell 0;have d1:=hS2.cell 1;simp only [List.getElem?_toArray,List.getElem?_cons_zero,List.getElem?_cons_succ] at c0 c1 c2 d0 d1
    by_cases hnm:n=0∧m= -1
    ·obtain ⟨rfl,rfl⟩:=hnm
     obtain rfl:Y=[42]:=by rw [HG.out,if_pos ⟨rfl,rfl⟩]
     have hcv:(convert 70 9 (.slice (some ⟨w5.heap.size,0,none⟩) 1 1)).run Tryz.prog (w5.alloc (.cells #[.int .u8 42] 5))=.ok (.string (ofT [42])) (w5.alloc (.cells #[.int .u8 42] 5)):=cv1 w5 5 42;clear HG k1 k2 k3
     go_wp2_with fail
     go_ret;exact ⟨rfl,hB2.alloc (Nat.le_of_succ_le hz2) _⟩
    have HN:=Lib.hid hnm;clear hnm c0 hX
    by_cases hn:n=0
    ·subst hn
     have hm:¬m= -1:=fun h=>HN.out ⟨rfl,h⟩
     have qm:((-1:Int)==m)=false:=by rw [beq_eq_false_iff_ne];exact fun h=>hm h.symm
     have qm2:¬(-1:Int)=m:=fun h=>hm h.symm
     clear hm
     go_wp2_with fail
     go_roundw
     case rel=>exact ⟨1,by omega,rfl,fun _=>by first|exact HN.out|exact k1 (by omega)|exact fun h=>k1 (by omega) ⟨rfl,h.2⟩,fun h=>by first|omega|exact HN.out|exact k2 (by omega),fun h=>by first|omega|exact HN.out,hS2,hB2,hz2⟩
     case measure=>simp [intOf]
    ·have qn:((0:Int)==n)=false:=by rw [beq_eq_false_iff_ne];exact fun h=>hn h.symm
     have qn2:¬(0:Int)=n:=fun h=>hn h.symm
     clear hn
     go_wp2_with fail
     go_roundw
     case rel=>exact ⟨1,by omega,rfl,fun _=>by first|exact HN.out|exact k1 (by omega)|exact fun h=>k1 (by omega) ⟨rfl,h.2⟩,fun h=>by first|omega|exact HN.out|exact k2 (by omega),fun h=>by first|omega|exact HN.out,hS2,hB2,hz2⟩
     case measure=>simp [intOf]
   ·have hX:=Blk.new wr #[.int .u8 43,.int .i64 1,.int .i64 (-1)] 124
    have hS2:=hS.alloc (.cells #[.int .u8 43,.int .i64 1,.int .i64 (-1)] 124);have hB2:=hB.alloc (by omega) (.cells #[.int .u8 43,.int .i64 1,.int .i64 (-1)] 124);have hz2:w.heap.size+1≤(wr.alloc (.cells #[.int .u8 43,.int .i64 1,.int .i64 (-1)] 124)).heap.size:=by simp;omega
    clear hS hB;have hix:∀w',(Instr.index 125 (.agg sgI) (.int .i64 1)).run Tryz.prog w'=.ok (.agg #[.int .u8 43,.int .i64 1,.int .i64 (-1)]) w':=fun w'=>by kernel_rfl
    go_upto_region 7 with fail
    clear hix;generalize wr.alloc (.cells #[.int .u8 43,.int .i64 1,.int .i64 (-1)] 124)=w5 at*;generalize wr.heap.size=B at*;have c0:=hX.cell 0;have c1:=hX.cell 1;have c2:=hX.cell 2;have d0:=hS2.cell 0;have d1:=hS2.cell 1;simp only [List.getElem?_toArray,List.getElem?_cons_zero,List.getElem?_cons_succ] at c0 c1 c2 d0 d1
    by_cases hnm:n=1∧m= -1
    ·obtain ⟨rfl,rfl⟩:=hnm
     obtain rfl:Y=[43]:=by rw [HG.out,if_neg (fun h=>absurd h.1 (by decide)),if_pos ⟨rfl,rfl⟩]
     have hcv:(convert 70 9 (.slice (some ⟨w5.heap.size,0,none⟩) 1 1)).run Tryz.prog (w5.alloc (.cells #[.int .u8 43] 5))=.ok (.string (ofT [43])) (w5.alloc (.cells #[.int .u8 43] 5)):=cv1 w5 5 43;clear HG k1 k2 k3
     go_wp2_with fail
     go_ret;exact ⟨rfl,hB2.alloc (Nat.le_of_succ_le hz2) _⟩
    have HN:=Lib.hid hnm;clear hnm c0 hX
    by_cases hn:n=1
    ·subst hn
     have hm:¬m= -1:=fun h=>HN.out ⟨rfl,h⟩
     have qm:((-1:Int)==m)=false:=by rw [beq_eq_false_iff_ne];exact fun h=>hm h.symm
     have qm2:¬(-1:Int)=m:=fun h=>hm h.symm
     clear hm
     go_wp2_with fail
     go_roundw
     case rel=>exact ⟨2,by omega,rfl,fun _=>by first|exact HN.out|exact k1 (by omega)|exact fun h=>k1 (by omega) ⟨rfl,h.2⟩,fun h=>by first|omega|exact HN.out|exact k2 (by omega),fun h=>by first|omega|exact HN.out,hS2,hB2,hz2⟩
     case measure=>simp [intOf]
    ·have qn:((1:Int)==n)=false:=by rw [beq_eq_false_iff_ne];exact fun h=>hn h.symm
     have qn2:¬(1:Int)=n:=fun h=>hn h.symm
     clear hn
     go_wp2_with fail
     go_roundw
     case rel=>exact ⟨2,by omega,rfl,fun _=>by first|exact HN.out|exact k1 (by omega)|exact fun h=>k1 (by omega) ⟨rfl,h.2⟩,fun h=>by first|omega|exact HN.out|exact k2 (by omega),fun h=>by first|omega|exact HN.out,hS2,hB2,hz2⟩
     case measure=>simp [intOf]
   ·have hX:=Blk.new wr #[.int .u8 63,.int .i64 0,.int .i64 (1)] 124
    have hS2:=hS.alloc (.cells #[.int .u8 63,.int .i64 0,.int .i64 (1)] 124);have hB2:=hB.alloc (by omega) (.cells #[.int .u8 63,.int .i64 0,.int .i64 (1)] 124);have hz2:w.heap.size+1≤(wr.alloc (.cells #[.int .u8 63,.int .i64 0,.int .i64 (1)] 124)).heap.size:=by simp;omega
    clear hS hB;have hix:∀w',(Instr.index 125 (.agg sgI) (.int .i64 2)).run Tryz.prog w'=.ok (.agg #[.int .u8 63,.int .i64 0,.int .i64 (1)]) w':=fun w'=>by kernel_rfl
    go_upto_region 7 with fail
    clear hix;generalize wr.alloc (.cells #[.int .u8 63,.int .i64 0,.int .i64 (1)] 124)=w5 at*;generalize wr.heap.size=B at*;have c0:=hX.cell 0;have c1:=hX.cell 1;have c2:=hX.cell 2;have d0:=hS2.cell 0;have d1:=hS2.cell 1;simp only [List.getElem?_toArray,List.getElem?_cons_zero,List.getElem?_cons_succ] at c0 c1 c2 d0 d1
    by_cases hnm:n=0∧m=1
    ·obtain ⟨rfl,rfl⟩:=hnm
     obtain rfl:Y=[63]:=by rw [HG.out,if_neg (fun h=>absurd h.2 (by decide)),if_neg (fun h=>absurd h.1 (by decide)),if_pos ⟨rfl,rfl⟩]
     have hcv:(convert 70 9 (.slice (some ⟨w5.heap.size,0,none⟩) 1 1)).run Tryz.prog (w5.alloc (.cells #[.int .u8 63] 5))=.ok (.string (ofT [63])) (w5.alloc (.cells #[.int .u8 63] 5)):=cv1 w5 5 63;clear HG k1 k2 k3
     go_wp2_with fail
     go_ret;exact ⟨rfl,hB2.alloc (Nat.le_of_succ_le hz2) _⟩
    have HN:=Lib.hid hnm;clear hnm c0 hX
    by_cases hn:n=0
    ·subst hn
     have hm:¬m=1:=fun h=>HN.out ⟨rfl,h⟩
     have qm:((1:Int)==m)=false:=by rw [beq_eq_false_iff_ne];exact fun h=>hm h.symm
     have qm2:¬(1:Int)=m:=fun h=>hm h.symm
     clear hm
     go_wp2_with fail
     go_roundw
     case rel=>exact ⟨3,by omega,rfl,fun _=>by first|exact HN.out|exact k1 (by omega)|exact fun h=>k1 (by omega) ⟨rfl,h.2⟩,fun h=>by first|omega|exact HN.out|exact k2 (by omega),fun h=>by first|omega|exact HN.out,hS2,hB2,hz2⟩
     case measure=>simp [intOf]
    ·have qn:((0:Int)==n)=false:=by rw [beq_eq_false_iff_ne];exact fun h=>hn h.symm
     have qn2:¬(0:Int)=n:=fun h=>hn h.symm
     clear hn
     go_wp2_with fail
     go_roundw
     case rel=>exact ⟨3,by omega,rfl,fun _=>by first|exact HN.out|exact k1 (by omega)|exact fun h=>k1 (by omega) ⟨rfl,h.2⟩,fun h=>by first|omega|exact HN.out|exact k2 (by omega),fun h=>by first|omega|exact HN.out,hS2,hB2,hz2⟩
     case measure=>simp [intOf]
   ·obtain ⟨N,rfl⟩:∃N:Nat,n=N:=⟨n.toNat,by omega⟩
    have hg:=HG.out;rw [if_neg (k1 (by omega)),if_neg (k2 (by omega)),if_neg (k3 (by omega)),show (N:Int).toNat=N from rfl] at hg;have HI:=Lib.hid (itoa_calls N (by omega));have hl:=digL_le N;clear HG k1 k2 k3 hS hz
    by_cases h1:(N:Int)=m
    ·subst h1
     rw [if_pos rfl] at hg;have a1:=addT [123] (digL N) (by simp;omega);have a2:=addT ([123]++digL N) [125] (by simp;omega);rw [show ofT [123]=⟨#[123]⟩ from rfl] at a1;rw [show ofT [125]=⟨#[125]⟩ from rfl] at a2;have e1:123::(digL N++[125])=[123]++digL N++[125]:=by simp
     have hY:ofT Y=ofT ([123]++digL N++[125]):=by rw [hg,e1]
     clear hg;generalize ofT ([123]++digL N++[125])=t2 at*;generalize ofT ([123]++digL N)=t1 at*;generalize ofT (digL N)=t0 at*;have HY:=Lib.hid hY;clear hl e1 r2 hY
     go_wp2_with fail
     refine (HI.out _).mono ?_;rintro e w' ⟨rfl,rfl⟩
     go_wp2_with fail
     go_ret;exact ⟨by rw [HY.out]<;>rfl,hB⟩
    rw [if_neg h1] at hg;have q1:(m==(N:Int))=false:=by rw [beq_eq_false_iff_ne];omega
    by_cases h2:m= -1
    ·subst h2
     rw [if_pos rfl] at hg;have a1:=addT [123] (digL N) (by simp;omega);have a2:=addT ([123]++digL N) [44,125] (by simp;omega);rw [show ofT [123]=⟨#[123]⟩ from rfl] at a1;rw [show ofT [44,125]=⟨#[44,125]⟩ from rfl] at a2;have e1:123::(digL N++[44,125])=[123]++digL N++[44,125]:=by simp
     have hY:ofT Y=ofT ([123]++digL N++[44,125]):=by rw [hg,e1]
     clear hg;generalize ofT ([123]++digL N++[44,125])=t2 at*;generalize ofT ([123]++digL N)=t1 at*;generalize ofT (digL N)=t0 at*;have HY:=Lib.hid hY;clear hl e1 r2 hY
     go_wp2_with fail
     refine (HI.out _).mono ?_;rintro e w' ⟨rfl,rfl⟩
     go_wp2_with fail
     go_ret;exact ⟨by rw [HY.out]<;>rfl,hB⟩
    rw [if_neg h2] at hg;have q2:(m== -1)=false:=by rw [beq_eq_false_iff_ne];omega
    obtain ⟨M,rfl⟩:∃M:Nat,m=M:=⟨m.toNat,by omega⟩;rw [show (M:Int).toNat=M from rfl] at hg;have HJ:=Lib.hid (itoa_calls M (by omega));have hl2:=digL_le M;have a1:=addT [123] (digL N) (by simp;omega);have a2:=addT ([123]++digL N) [44] (by simp;omega);have a3:=addT ([123]++digL N++[44]) (digL M) (by simp;omega);have a4:=addT ([123]++digL N++[44]++digL M) [125] (by simp;omega);rw [show ofT [123]=⟨#[123]⟩ from rfl] at a1;rw [show ofT [44]=⟨#[44]⟩ from rfl] at a2;rw [show ofT [125]=⟨#[125]⟩ from rfl] at a4;have e1:123::(digL N++(44::(digL M++[125])))=[123]++digL N++[44]++digL M++[125]:=by simp
    have hY:ofT Y=ofT ([123]++digL N++[44]++digL M++[125]):=by rw [hg,e1]
    clear hg;generalize ofT ([123]++digL N++[44]++digL M++[125])=t4 at*;generalize ofT ([123]++digL N++[44]++digL M)=t3 at*;generalize ofT ([123]++digL N++[44])=t2 at*;generalize ofT ([123]++digL N)=t1 at*;generalize ofT (digL N)=t0 at*;generalize ofT (digL M)=s0 at*;have HY:=Lib.hid hY;clear hl hl2 e1 r2 hY
    go_wp2_with fail
    refine (HI.out _).mono ?_;rintro e w' ⟨rfl,rfl⟩
    go_wp2_with fail
    refine (HJ.out _).mono ?_;rintro e w' ⟨rfl,rfl⟩
    go_wp2_with fail
    go_ret;exact ⟨by rw [HY.out]<;>rfl,hB⟩
end Go.Proofs.YtbccojjcdcighaaGreatDoor

/- Texts put together: Ns. -/
import Derived.Test.YtbccojjcdcighaaGreatDoorQB
import Derived.Laws.Concat
import Derived.WalkLawsBesides
import Derived.Handy
namespace Go.Proofs.YtbccojjcdcighaaGreatDoor
open Go.RowKit
set_option maxRecDepth 100000 in
set_option maxHeartbeats 4000000 in
theorem readN_calls (s:ByteArray) (hs:s.size≤1000000) (at':Int) (w:World):Calls Tryz.prog 90 #[.string s,.int .i64 at'] w fun e w'=>e=.returned (tupN (readN s at'))∧w=w':=by
 by_cases h0:at'<0
 ·have q:decide (at'<0)=true:=by simpa using h0
  have hR:readN s at'=(0,0,0,1,0):=by unfold readN;rw [if_pos (.inl h0)]
  rw [hR];clear hR h0;go_enter Tryz.func90,Tryz.ntmps90
  go_wp2_with fail
  exact bodyPost_ret (v:=.tuple #[.int .i64 0,.int .i64 0,.int .i64 0,.int .i64 1,.int .i64 0]) (by simp [results,Tryz.results90,go_sem]) rfl ⟨rfl,rfl⟩
 obtain ⟨a,rfl⟩:∃a:Nat,at'=a:=⟨at'.toNat,by omega⟩
 by_cases h1:s.size≤a
 ·have q:decide (s.size≤a)=true:=by simpa using h1
  have hR:readN s a=(0,0,0,1,0):=by unfold readN;rw [if_pos (.inr (by omega))]
  rw [hR];clear hR h0;go_enter Tryz.func90,Tryz.ntmps90
  go_wp2_with fail
  exact bodyPost_ret (v:=.tuple #[.int .i64 0,.int .i64 0,.int .i64 0,.int .i64 1,.int .i64 0]) (by simp [results,Tryz.results90,go_sem]) rfl ⟨rfl,rfl⟩
 have q:decide (s.size≤a)=false:=by simpa using h1
 have hR:readN s a=signN s a:=by unfold readN;rw [if_neg (by omega)];rfl
 have hlt:a<s.size:=by omega
 have b0:s[a].toNat=bt s a:=(bt_eq s a hlt).symm;have hb:=bt_lt s a;have HBC:=Lib.hid (braces_calls s hs a hlt);have hS:signN s a=if bt s a=42 then (0,-1,a+1,0,0) else if bt s a=43 then (1,-1,a+1,0,0) else if bt s a=63 then (0,1,a+1,0,0) else if bt s a=123 then bracesN s (a+1) else (0,0,0,1,0):=rfl
 rw [hR];clear hR h0;generalize bracesN s (a+1)=B at*;generalize signN s a=R at*;generalize bt s a=b at*
 by_cases g1:b=42
 ·subst g1
  rw [if_pos rfl] at hS;subst hS;go_enter Tryz.func90,Tryz.ntmps90
  go_wp2_with fail
  exact bodyPost_ret (v:=.tuple #[.int .i64 0,.int .i64 (-1),.int .i64 ((a:Int)+1),.int .i64 0,.int .i64 0]) (by simp [results,Tryz.results90,go_sem]) rfl ⟨rfl,rfl⟩
 rw [if_neg g1] at hS
 by_cases g2:b=43
 ·subst g2
  rw [if_pos rfl] at hS;subst hS;go_enter Tryz.func90,Tryz.ntmps90
  go_wp2_with fail
  exact bodyPost_ret (v:=.tuple #[.int .i64 1,.int .i64 (-1),.int .i64 ((a:Int)+1),.int .i64 0,.int .i64 0]) (by simp [results,Tryz.results90,go_sem]) rfl ⟨rfl,rfl⟩
 rw [if_neg g2] at hS
 by_cases g3:b=63
 ·subst g3
  rw [if_pos rfl] at hS;subst hS;go_enter Tryz.func90,Tryz.ntmps90
  go_wp2_with fail
  exact bodyPost_ret (v:=.tuple #[.int .i64 0,.int .i64 1,.int .i64 ((a:Int)+1),.int .i64 0,.int .i64 0]) (by simp [results,Tryz.results90,go_sem]) rfl ⟨rfl,rfl⟩
 rw [if_neg g3] at hS;have q1:((b:Int)==42)=false:=by rw [beq_eq_false_iff_ne];omega
 have q2:((b:Int)==43)=false:=by rw [beq_eq_false_iff_ne];omega
 have q3:((b:Int)==63)=false:=by rw [beq_eq_false_iff_ne];omega
 by_cases g4:b=123
 ·subst g4
  rw [if_pos rfl] at hS;subst hS;obtain ⟨x1,x2,x3,x4,x5⟩:=R;replace HBC:Hid (∀w,Calls Tryz.prog 110 #[.string s,.int .i64 a] w fun e w'=>e=.returned (.tuple #[.int .i64 x1,.int .i64 x2,.int .i64 x3,.int .i64 x4,.int .i64 x5])∧w=w'):=HBC;clear g1 g2 g3 q1 q2 q3;go_enter Tryz.func90,Tryz.ntmps90
  go_wp2_with (go_at_call 110;refine (HBC.out _).mono ?_;rintro e w' ⟨rfl,rfl⟩)
  exact bodyPost_ret (v:=.tuple #[.int .i64 x1,.int .i64 x2,.int .i64 x3,.int .i64 x4,.int .i64 x5]) (by simp [results,Tryz.results90,go_sem]) rfl ⟨rfl,rfl⟩
 ·have q4:((b:Int)==123)=false:=by rw [beq_eq_false_iff_ne];omega
  rw [if_neg g4] at hS;subst hS;clear g1 g2 g3 g4;go_enter Tryz.func90,Tryz.ntmps90
  go_wp2_with fail
  exact bodyPost_ret (v:=.tuple #[.int .i64 0,.int .i64 0,.int .i64 0,.int .i64 1,.int .i64 0]) (by simp [results,Tryz.results90,go_sem]) rfl ⟨rfl,rfl⟩
set_option maxHeartbeats 2000000 in
theorem rightN_calls (n m:Int) (w:World):Calls Tryz.prog 43 #[.int .i64 n,.int .i64 m] w fun e w'=>e=.returned (.bool (rightN n m))∧w=w':=by
 have HS:=Lib.hid (show rightN n m=(decide (0≤n) && decide (n≤99) && (m== -1||(decide (n≤m) && decide (m≤99)))) from rfl);have go:∀x1 x2 x3 x4 x5:Bool,decide (0≤n)=x1→decide (n≤99)=x2→(m== -1)=x3→decide (n≤m)=x4→decide (m≤99)=x5→Calls Tryz.prog 43 #[.int .i64 n,.int .i64 m] w fun e w'=>e=.returned (.bool (x1 && x2 && (x3||(x4 && x5))))∧w=w':=by
  intro x1 x2 x3 x4 x5 e1 e2 e3 e4 e5;clear HS
  cases x1
  ·clear e2 e3 e4 e5
   go_enter Tryz.func43,Tryz.ntmps43
   go_wp2
   go_ret;exact ⟨by simp,rfl⟩
  cases x2
  ·clear e3 e4 e5
   go_enter Tryz.func43,Tryz.ntmps43
   go_wp2
   go_ret;exact ⟨by simp,rfl⟩
  cases x3
  ·cases x4
   ·clear e5
    go_enter Tryz.func43,Tryz.ntmps43
    go_wp2
    go_ret;exact ⟨by simp,rfl⟩
   ·cases x5<;>
    ·go_enter Tryz.func43,Tryz.ntmps43
     go_wp2
     go_ret;exact ⟨by simp,rfl⟩
  ·clear e4 e5
   go_enter Tryz.func43,Tryz.ntmps43
   go_wp2
   go_ret;exact ⟨by simp,rfl⟩
 rw [HS.out];exact go _ _ _ _ _ rfl rfl rfl rfl rfl
set_option maxRecDepth 100000 in
set_option maxHeartbeats 2000000 in
theorem digN_calls (n:Nat) (hn:n≤99) (w:World):Calls Tryz.prog 63 #[.int .i64 n] w fun e w'=>e=.returned (.string (ofT (digL n)))∧Below w.heap.size w w':=by
 by_cases h:10≤n
 ·have q:decide ((10:Int)≤(n:Int))=true:=by rw [decide_eq_true_eq];omega
  have hr:digL n=[48+n / 10,48+n % 10]:=by unfold digL;rw [if_pos h]
  have hcv:∀W:World,(convert 70 9 (.slice (some ⟨W.heap.size,0,none⟩) 2 2)).run Tryz.prog (W.alloc (.cells #[.int .u8 (48+(n:Int) / 10),.int .u8 (48+(n:Int) % 10)] 5))=.ok (.string (ofT (digL n))) (W.alloc (.cells #[.int .u8 (48+(n:Int) / 10),.int .u8 (48+(n:Int) % 10)] 5)):=fun W=>by
   have:=cv2 W 5 (48+n / 10) (48+n % 10);rw [hr];exact this
  generalize digL n=L at*;clear hr h;go_enter Tryz.func63,Tryz.ntmps63
  go_wp2_with fail
  go_ret;exact ⟨rfl,by go_grown⟩
 ·have q:decide ((10:Int)≤(n:Int))=false:=by rw [decide_eq_false_iff_not];omega
  have hr:digL n=[48+n]:=by unfold digL;rw [if_neg h]
  have hcv:∀W:World,(convert 70 9 (.slice (some ⟨W.heap.size,0,none⟩) 1 1)).run Tryz.prog (W.alloc (.cells #[.int .u8 (48+(n:Int))] 5))=.ok (.string (ofT (digL n))) (W.alloc (.cells #[.int .u8 (48+(n:Int))] 5)):=fun W=>by
   have:=cv1 W 5 (48+n);rw [hr];exact this
  have hn9:n≤9:=by omega
  generalize digL n=L at*;clear hr h;go_enter Tryz.func63,Tryz.ntmps63
  go_wp2_with fail
  go_ret;exact ⟨rfl,by go_grown⟩
theorem digL_len (n:Nat):(digL n).length≤2:=by unfold digL;split<;>simp
set_option maxRecDepth 100000 in
set_option maxHeartbeats 8000000 in
theorem textN_calls (n m:Int) (w:World):Calls Tryz.prog 38 #[.int .i64 n,.int .i64 m] w fun e w'=>e=.returned (.string (ofT (textN n m)))∧Below w.heap.size w w':=by
 have hrc:=rightN_calls n m
 cases hr:rightN n m with
 |false=>
  rw [hr] at hrc;have hT:textN n m=[]:=by unfold textN;rw [if_pos hr]
  rw [hT];have HRC:=Lib.hid hrc;clear hrc hr hT;go_enter Tryz.func38,Tryz.ntmps38
  go_wp2_with (go_at_call 43;refine (HRC.out _).mono ?_;rintro e w' ⟨rfl,rfl⟩)
  go_ret;exact ⟨rfl,Below.refl _ _⟩
 |true=>
 rw [hr] at hrc;have HRC:=Lib.hid hrc;have hT:textN n m=if n=0∧m= -1 then [42] else if n=1∧m= -1 then [43] else if n=0∧m=1 then [63] else if n=m then 123::(digL n.toNat++[125]) else if m= -1 then 123::(digL n.toNat++[44,125]) else 123::(digL n.toNat++(44::(digL m.toNat++[125]))):=by
  unfold textN;rw [if_neg (by rw [hr];decide)]
 have hc:0≤n∧n≤99∧(m= -1∨(n≤m∧m≤99)):=by
  unfold rightN at hr;simp only [Bool.and_eq_true,Bool.or_eq_true,decide_eq_true_eq,beq_iff_eq] at hr;exact ⟨hr.1.1,hr.1.2,hr.2⟩
 clear hrc hr;obtain ⟨c1,c2,c3⟩:=hc;obtain ⟨N,rfl⟩:∃N:Nat,n=N:=⟨n.toNat,by omega⟩;rw [show (N:Int).toNat=N from rfl] at hT;have HDN:=Lib.hid (digN_calls N (by omega));have hlN:=digL_len N;rcases c3 with rfl|⟨c3,c4⟩
 ·-- without end
  by_cases g0:N=0
  ·subst g0
   rw [if_pos ⟨rfl,rfl⟩] at hT;rw [hT];clear hT;go_enter Tryz.func38,Tryz.ntmps38
   go_wp2_with (go_at_call 43;refine (HRC.out _).mono ?_;rintro e w' ⟨rfl,rfl⟩)
   go_ret;exact ⟨rfl,Below.refl _ _⟩
  by_cases g1:N=1
  ·subst g1
   rw [if_neg (by omega),if_pos ⟨rfl,rfl⟩] at hT;rw [hT];clear hT;go_enter Tryz.func38,Tryz.ntmps38
   go_wp2_with (go_at_call 43;refine (HRC.out _).mono ?_;rintro e w' ⟨rfl,rfl⟩)
   go_ret;exact ⟨rfl,Below.refl _ _⟩
  rw [if_neg (by omega),if_neg (by omega),if_neg (by omega),if_neg (by omega),if_pos rfl] at hT;have q0:((N:Int)==0)=false:=by rw [beq_eq_false_iff_ne];omega
  have q1:((N:Int)==1)=false:=by rw [beq_eq_false_iff_ne];omega
  have q2:((N:Int)== -1)=false:=by rw [beq_eq_false_iff_ne];omega
  have a1:=addT [123] (digL N) (by rw [show ([123]:List Nat).length=1 from rfl];omega);have a2:=addT ([123]++digL N) [44,125] (by rw [List.length_append,show ([123]:List Nat).length=1 from rfl,show ([44,125]:List Nat).length=2 from rfl];omega);rw [show [123]++digL N++[44,125]=textN (N:Int) (-1) by rw [hT];simp] at a2;rw [show ofT [123]=⟨#[123]⟩ from rfl] at a1;rw [show ofT [44,125]=⟨#[44,125]⟩ from rfl] at a2;generalize textN (N:Int) (-1)=T at*;generalize [123]++digL N=T1 at*;generalize digL N=D at*;clear hT g0 g1;go_enter Tryz.func38,Tryz.ntmps38
  go_wp2_with (first|(go_at_call 43;refine (HRC.out _).mono ?_;rintro e w' ⟨rfl,rfl⟩)|(go_at_call 63;refine (HDN.out _).mono ?_;rintro e w' ⟨rfl,hbD⟩))
  go_ret;exact ⟨rfl,hbD⟩
 ·obtain ⟨M,rfl⟩:∃M:Nat,m=M:=⟨m.toNat,by omega⟩
  rw [show (M:Int).toNat=M from rfl] at hT;have qm:((M:Int)== -1)=false:=by rw [beq_eq_false_iff_ne];omega
  have hlM:=digL_len M;have b1:([123]:List Nat).length=1:=rfl;have b2:([125]:List Nat).length=1:=rfl;have b3:([44]:List Nat).length=1:=rfl
  by_cases gq:N=0∧M=1
  ·obtain ⟨rfl,rfl⟩:=gq
   rw [if_neg (by omega),if_neg (by omega),if_pos ⟨rfl,rfl⟩] at hT;rw [hT];clear hT qm;go_enter Tryz.func38,Tryz.ntmps38
   go_wp2_with (go_at_call 43;refine (HRC.out _).mono ?_;rintro e w' ⟨rfl,rfl⟩)
   go_ret;exact ⟨rfl,Below.refl _ _⟩
  rw [if_neg (by omega),if_neg (by omega),if_neg (by omega)] at hT
  by_cases ge:N=M
  ·subst ge
   rw [if_pos rfl] at hT;have a1:=addT [123] (digL N) (by omega);have a2:=addT ([123]++digL N) [125] (by rw [List.length_append];omega);rw [show [123]++digL N++[125]=textN (N:Int) N by rw [hT];simp] at a2;rw [show ofT [123]=⟨#[123]⟩ from rfl] at a1;rw [show ofT [125]=⟨#[125]⟩ from rfl] at a2;generalize textN (N:Int) N=T at*;generalize [123]++digL N=T1 at*;generalize digL N=D at*;clear hT b1 b2 b3;have qn:(((N:Int)==0) && ((N:Int)==1))=false:=by
    cases h1:((N:Int)==0)<;>cases h2:((N:Int)==1)<;>simp_all
   by_cases z0:N=0
   ·subst z0
    clear qn;go_enter Tryz.func38,Tryz.ntmps38
    go_wp2_with (first|(go_at_call 43;refine (HRC.out _).mono ?_;rintro e w' ⟨rfl,rfl⟩)|(go_at_call 63;refine (HDN.out _).mono ?_;rintro e w' ⟨rfl,hbD⟩))
    go_ret;exact ⟨rfl,hbD⟩
   have q0:((N:Int)==0)=false:=by rw [beq_eq_false_iff_ne];omega
   by_cases z1:N=1
   ·subst z1
    clear qn;go_enter Tryz.func38,Tryz.ntmps38
    go_wp2_with (first|(go_at_call 43;refine (HRC.out _).mono ?_;rintro e w' ⟨rfl,rfl⟩)|(go_at_call 63;refine (HDN.out _).mono ?_;rintro e w' ⟨rfl,hbD⟩))
    go_ret;exact ⟨rfl,hbD⟩
   have q1:((N:Int)==1)=false:=by rw [beq_eq_false_iff_ne];omega
   clear qn;go_enter Tryz.func38,Tryz.ntmps38
   go_wp2_with (first|(go_at_call 43;refine (HRC.out _).mono ?_;rintro e w' ⟨rfl,rfl⟩)|(go_at_call 63;refine (HDN.out _).mono ?_;rintro e w' ⟨rfl,hbD⟩))
   go_ret;exact ⟨rfl,hbD⟩
  ·rw [if_neg (by omega),if_neg (by omega)] at hT
   have HDM:=Lib.hid (digN_calls M (by omega));have qe:((N:Int)==(M:Int))=false:=by rw [beq_eq_false_iff_ne];omega
   have a1:=addT [123] (digL N) (by omega);have a2:=addT ([123]++digL N) [44] (by rw [List.length_append];omega);have a3:=addT ([123]++digL N++[44]) (digL M) (by rw [List.length_append,List.length_append];omega);have a4:=addT ([123]++digL N++[44]++digL M) [125] (by rw [List.length_append,List.length_append,List.length_append];omega);rw [show [123]++digL N++[44]++digL M++[125]=textN (N:Int) M by rw [hT];simp] at a4;rw [show ofT [123]=⟨#[123]⟩ from rfl] at a1;rw [show ofT [44]=⟨#[44]⟩ from rfl] at a2;rw [show ofT [125]=⟨#[125]⟩ from rfl] at a4;generalize textN (N:Int) M=T at*;generalize [123]++digL N++[44]++digL M=T3 at*;generalize [123]++digL N++[44]=T2 at*;generalize [123]++digL N=T1 at*;generalize digL N=D at*;generalize digL M=E at*;clear hT b1 b2 b3
   by_cases z0:N=0
   ·subst z0
    have q5:((M:Int)==1)=false:=by rw [beq_eq_false_iff_ne];omega
    have q6:((0:Int)==(M:Int))=false:=by rw [beq_eq_false_iff_ne];omega
    go_enter Tryz.func38,Tryz.ntmps38
    go_wp2_with (go_at_call 43;refine (HRC.out _).mono ?_;rintro e w' ⟨rfl,rfl⟩)
    refine (HDN.out _).mono ?_;rintro e w1 ⟨rfl,hb1⟩
    go_wp2_with fail
    refine (HDM.out _).mono ?_;rintro e w2 ⟨rfl,hb2⟩
    go_wp2_with fail
    go_ret;exact ⟨rfl,hb1.trans (hb2.mono hb1.size)⟩
   have q0:((N:Int)==0)=false:=by rw [beq_eq_false_iff_ne];omega
   by_cases z1:N=1
   ·subst z1
    have q6:((1:Int)==(M:Int))=false:=by rw [beq_eq_false_iff_ne];omega
    go_enter Tryz.func38,Tryz.ntmps38
    go_wp2_with (go_at_call 43;refine (HRC.out _).mono ?_;rintro e w' ⟨rfl,rfl⟩)
    refine (HDN.out _).mono ?_;rintro e w1 ⟨rfl,hb1⟩
    go_wp2_with fail
    refine (HDM.out _).mono ?_;rintro e w2 ⟨rfl,hb2⟩
    go_wp2_with fail
    go_ret;exact ⟨rfl,hb1.trans (hb2.mono hb1.size)⟩
   have q1:((N:Int)==1)=false:=by rw [beq_eq_false_iff_ne];omega
   go_enter Tryz.func38,Tryz.ntmps38
   go_wp2_with (go_at_call 43;refine (HRC.out _).mono ?_;rintro e w' ⟨rfl,rfl⟩)
   refine (HDN.out _).mono ?_;rintro e w1 ⟨rfl,hb1⟩
   go_wp2_with fail
   refine (HDM.out _).mono ?_;rintro e w2 ⟨rfl,hb2⟩
   go_wp2_with fail
   go_ret;exact ⟨rfl,hb1.trans (hb2.mono hb1.size)⟩
end Go.Proofs.YtbccojjcdcighaaGreatDoor

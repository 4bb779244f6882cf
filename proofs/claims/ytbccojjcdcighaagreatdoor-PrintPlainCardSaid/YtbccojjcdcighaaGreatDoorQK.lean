/- Texts put together: Ac Ad Ae Aj Ah Yp. -/
import Derived.Test.YtbccojjcdcighaaGreatDoorQC
import Derived.Test.YtbccojjcdcighaaGreatDoorQJ
import Derived.Test.YtbccojjcdcighaaGreatDoorQD
import Derived.Test.YtbccojjcdcighaaGreatDoorQA
import Derived.Deep.OwnRows
import Derived.Test.YtbccojjcdcighaaGreatDoorQE
import Derived.Test.YtbccojjcdcighaaGreatDoorQB
import Derived.Outline
import Derived.Deep.DeepCutAuto
namespace Go.Proofs.YtbccojjcdcighaaGreatDoor
open Go.RowKit BS
def IntsAt (l:List Int) (a:Option Addr) (W:World):Prop:=l≠[]→∃g,a=some ⟨g,0,none⟩∧g<W.heap.size∧∀i (h:i<l.length),W.cell? ⟨g,i,none⟩=some (.int .i64 l[i])
theorem IntsAt.below {l:List Int} {a:Option Addr} {W W':World} (h:IntsAt l a W) (hb:Below W.heap.size W W'):IntsAt l a W':=fun hne=>by
 obtain ⟨g,e,hg,hc⟩:=h hne;exact ⟨g,e,Nat.lt_of_lt_of_le hg hb.size,fun i hi=>(hb.cell (p:=⟨g,i,none⟩) hg).trans (hc i hi)⟩
def IntsO (l:List Int) (a:Option Addr) (W:World):Prop:=l≠[]→∃g o,a=some ⟨g,o,none⟩∧g<W.heap.size∧∀i (h:i<l.length),W.cell? ⟨g,o+i,none⟩=some (.int .i64 l[i])
theorem IntsO.below {l:List Int} {a:Option Addr} {W W':World} (h:IntsO l a W) (hb:Below W.heap.size W W'):IntsO l a W':=fun hne=>by
 obtain ⟨g,o,e,hg,hc⟩:=h hne;exact ⟨g,o,e,Nat.lt_of_lt_of_le hg hb.size,fun i hi=>(hb.cell (p:=⟨g,o+i,none⟩) hg).trans (hc i hi)⟩
end Go.Proofs.YtbccojjcdcighaaGreatDoor

namespace Go.Proofs.YtbccojjcdcighaaGreatDoor
open Go.RowKit BS
theorem len_le_sum:∀(s:List Nat),(∀x∈s,0<x)→s.length≤s.sum
 |[],_=>Nat.le_refl _
 |z::s,h=>by
  have h1:=h z (List.mem_cons_self ..);have h2:=len_le_sum s (fun x hx=>h x (List.mem_cons_of_mem _ hx));rw [List.length_cons,List.sum_cons]
  omega
def ksN (l:List NdN):List Nat:=(l.map NdN.kids).map Int.toNat
def sizesR (l:List NdN):List Int:=if manyF 0 (l.map NdN.kids)=some 1 then (sizesF [] (ksN l)).map (fun x:Nat=>(x:Int)) else []
set_option maxRecDepth 100000 in
set_option maxHeartbeats 8000000 in
theorem rSizes_calls (l:List NdN) (hl:l.length≤1000000) (a:Option Addr) (cap:Nat) (w:World) (h:NodesAt l a w):
 Calls Tryz.prog 41 #[.slice a l.length cap] w fun e w'=>∃b c,e=.returned (.slice b (sizesR l).length c)∧IntsAt (sizesR l) b w'∧Below w.heap.size w w':=by
 have HF:=Lib.hid (rFormed_calls l hl a cap w h);have HN:=Lib.hid h;clear h
 by_cases hf:manyF 0 (l.map NdN.kids)=some 1
 ·rw [decide_eq_true hf] at HF
  obtain ⟨hk0,hst⟩:=(formed_iff (l.map NdN.kids)).1 hf;have hst:stackF [] (ksN l)=some [(l.map NdN.kids).length]:=hst;have hkl:(ksN l).length=l.length:=by simp [ksN]
  have hsl:(sizesF [] (ksN l)).length=l.length:=by rw [sizesF_len,hkl]
  have hR:sizesR l=(sizesF [] (ksN l)).map (fun x:Nat=>(x:Int)):=if_pos hf;have hRl:(sizesR l).length=l.length:=by rw [hR,List.length_map,hsl]
  have HR:=Lib.hid hR;have HRl:=Lib.hid hRl;have hkx:∀i (h:i<l.length) (h':i<(ksN l).length),(l[i].kids:Int)=((ksN l)[i]:Nat):=fun i h h'=>by
   have h0:=hk0 l[i].kids (List.mem_map_of_mem (List.getElem_mem h));simp only [ksN,List.getElem_map]
   omega
  have hstack:=stack_at (ksN l) [] _ hst;have hroots:=roots_at (ksN l);have hpos:=fun i s (hs:stackF [] ((ksN l).take i)=some s)=>stackF_pos ((ksN l).take i) [] s (by simp) hs
  have HKX:=Lib.hid hkx;have HST:=Lib.hid hstack;have HRO:=Lib.hid hroots;have HPO:=Lib.hid hpos;have HKL:=Lib.hid hkl;clear hf hk0 hst hR hRl hkx hstack hroots hpos hkl;have hmk:=run_make_row' (P:=Tryz.prog) 48 3 (.int .i64 0) 8 Tryz.underlying48 (by kernel_rfl) rfl .i64 .i64 l.length (by omega) (by omega);have hmz:(madeCells #[Value.int .i64 0] l.length).size=l.length:=by simp [madeCells]
  have hBn:=Blk.new w (madeCells #[Value.int .i64 0] l.length) 3;have hB0:Below w.heap.size w (w.alloc (.cells (madeCells #[Value.int .i64 0] l.length) 3)):=(Below.refl _ _).alloc (Nat.le_refl _) _;generalize madeCells #[Value.int .i64 0] l.length=vs0 at*;generalize sizesF [] (ksN l)=sz at*;go_enter Tryz.func41,Tryz.ntmps41
  go_wp2_with fail
  refine HF.out.mono ?_;rintro e w' ⟨rfl,rfl⟩
  go_wp2_with fail
  generalize w.alloc (.cells vs0 3)=w1 at*;clear hmk HF
  go_loopw [4] (fun x wr=>∃i:Nat,i≤l.length∧x=.int .i64 i∧(∃vs:Array Value,vs.size=l.length∧(∀j (h:j<sz.length),j<i→vs[j]? =some (.int .i64 (sz[j]:Int)))∧Blk wr w.heap.size vs 3)∧Below w.heap.size w wr) (fun x _=>l.length - (intOf x).toNat)
  case atStart=>exact ⟨0,Nat.zero_le _,rfl,⟨vs0,hmz,fun j _ hj=>by omega,hBn⟩,hB0⟩
  case round=>
   clear hBn hB0 hmz;obtain ⟨i,hi,rfl,⟨vs,hvs,hno,hb⟩,hB⟩:=hrel
   by_cases hlt:i<l.length
   ·have hne:l≠[]:=by rintro rfl;simp at hlt
    have hlk:i<(ksN l).length:=by rw [HKL.out];exact hlt
    obtain ⟨g,off,rfl,hg,hc⟩:=HN.out hne;obtain ⟨s,hs,hks,hsum⟩:=HST.out i hlk;obtain ⟨hr,ht,hsi⟩:=HRO.out i hlk s hs;rw [←ht] at hr;have hpl:=len_le_sum s (HPO.out i s hs);have hkk:=HKX.out i hlt hlk;generalize hK:(ksN l)[i]=K at*;have c1:wr.cell? ⟨g,off+i*8+1,none⟩=some (.int .i64 (K:Int)):=by
     rw [←hkk];exact (hB.cell (p:=⟨g,off+i*8+1,none⟩) hg).trans (hc i hlt 1 (by decide))
    have hd:decide ((i:Int)<(l.length:Int))=true:=by rw [decide_eq_true_iff];omega
    have hd2:decide (i<l.length)=true:=by rw [decide_eq_true_iff];omega
    have htl:(sz.take i).length=i:=by rw [List.length_take];omega
    have hcell:=fun j=>hb.cell j
    have hfi:=hb.frozen i;obtain ⟨old,hold⟩:∃old,vs[i]? =some old:=⟨vs[i]'(by omega),by simp [show i<vs.size by omega]⟩;have hci:=(hb.cell i).trans hold;have xi:IntKind.i64.wrap ((i:Int) - 1)=(i:Int) - 1:=IntWalk.i64_in _ (by omega);have HB:=Lib.hid hB;have HBK:=Lib.hid hb;have HNO:=Lib.hid hno;have HRT:=Lib.hid hr;have HSI:=Lib.hid hsi;have HCE:=Lib.hid hcell;have hsumi:s.sum=i:=by simpa using hsum
    clear hB hb hno hr hsi hc hkk ht hs hcell hne hsum hold hlk hK hg
    go_wp2_with fail
    go_loop [5,6] (fun va vk=>∃k:Nat,k≤K∧va=.int .i64 ((i:Int) - 1 - ((s.take k).sum:Nat))∧vk=.int .i64 k) (fun _ vk=>K - (intOf vk).toNat)
    case atStart=>exact ⟨0,Nat.zero_le _,by simp,rfl⟩
    case round=>
     obtain ⟨k,hk,rfl,rfl⟩:=hrel;have hle:=take_sum_le s k
     by_cases hkl:k<K
     ·obtain ⟨h1,h2⟩:=HRT.out k (by omega)
      rw [htl] at h1 h2;have hts:=take_sum s k (by omega);have hle2:=take_sum_le s (k+1);generalize hS:(s.take k).sum=S at*;generalize hS1:(s.take (k+1)).sum=S1 at*;generalize s[k]=z at*;have hpz:(i - 1 - S)<sz.length:=by omega
      have hz:sz[i - 1 - S]=z:=by
       rw [List.getElem?_take,if_pos (by omega),List.getElem?_eq_getElem hpz] at h2;exact Option.some.inj h2
      have cp:=(HCE.out (i - 1 - S)).trans (HNO.out (i - 1 - S) hpz (by omega));rw [hz] at cp;have hat:(i:Int) - 1 - (S:Int)=((i - 1 - S:Nat):Int):=by omega
      have hpn:i - 1 - S<l.length:=by omega
      have HTS:=Lib.hid hts;have HLE2:=Lib.hid hle2;have HAT:=Lib.hid hat;have HS1:=Lib.hid hS1;rw [hat];clear h1 h2 hz hpz hts hle2 hat hS hS1 hle;have hq:decide ((k:Int)<(K:Int))=true:=by rw [decide_eq_true_iff];omega
      have hq2:decide (k<K)=true:=by rw [decide_eq_true_iff];omega
      have hlt2:S+z≤i:=by have:=HTS.out;have:=HLE2.out;omega
      generalize hP:i - 1 - S=p at*;have HP:=Lib.hid hP;clear hP;have xz:IntKind.i64.wrap ((p:Int) - (z:Int))=(p:Int) - (z:Int):=IntWalk.i64_in _ (by omega);have XZ:=Lib.hid xz;have xk:IntKind.i64.wrap ((k:Int)+1)=(k:Int)+1:=IntWalk.i64_in _ (by omega)
      go_wp2_with fail
      go_round
      case rel=>
       refine ⟨k+1,by omega,?_,by simp⟩;have e1:=HTS.out;have e2:=HAT.out;have e3:=HS1.out;have e4:=XZ.out;rw [e3,e1]
       congr 1
       omega
      case measure=>simp [intOf];omega
     ·obtain rfl:k=K:=by omega
      have hq:decide ((k:Int)<(k:Int))=false:=by simp
      generalize hS:(s.take k).sum=S at*;have xa:IntKind.i64.wrap ((i:Int) - ((i:Int) - 1 - (S:Int)))=1+(S:Int):=by rw [show (i:Int) - ((i:Int) - 1 - (S:Int))=1+(S:Int) by omega];exact IntWalk.i64_in _ (by omega)
      have hxa:(i:Int) - ((i:Int) - 1 - (S:Int))=1+(S:Int):=by omega
      go_wp2_with fail
      go_roundw
      case rel=>
       refine ⟨i+1,by omega,by simp,⟨vs.setIfInBounds i (.int .i64 (1+(S:Int))),by simp [hvs],fun j h hj=>?_,HBK.out.set i _⟩,below_set HB.out (Nat.le_refl _) i _⟩
       by_cases hji:j=i
       ·subst hji
        have e1:=HSI.out;rw [List.getElem?_eq_getElem h] at e1;rw [Option.some.inj e1]
        simp [hvs,hlt]
       ·rw [Array.getElem?_setIfInBounds_ne (Ne.symm hji)]
        exact HNO.out j h (by omega)
      case measure=>simp [intOf];omega
   ·obtain rfl:i=l.length:=by omega
    have hd:decide ((l.length:Int)<(l.length:Int))=false:=by simp
    have HB:=Lib.hid hB;have HBK:=Lib.hid hb;have HNO:=Lib.hid hno;clear hB hb hno HN
    go_wp2_with fail
    go_ret;refine ⟨some ⟨w.heap.size,0,none⟩,l.length,by rw [HRl.out]<;>rfl,fun _=>⟨w.heap.size,rfl,HBK.out.lt,fun j hj=>?_⟩,HB.out⟩;rw [HRl.out] at hj;have h1:=(HBK.out.cell j).trans (HNO.out j (by omega) hj);rw [h1];simp only [HR.out,List.getElem_map]
 ·rw [decide_eq_false hf] at HF
  have hR:sizesR l=[]:=if_neg hf;rw [hR];clear hf hR;go_enter Tryz.func41,Tryz.ntmps41
  go_wp2_with fail
  refine HF.out.mono ?_;rintro e w' ⟨rfl,rfl⟩
  go_wp2_with fail
  go_ret;exact ⟨none,0,rfl,fun h=>absurd rfl h,Below.refl _ _⟩
end Go.Proofs.YtbccojjcdcighaaGreatDoor

namespace Go.Proofs.YtbccojjcdcighaaGreatDoor
open Go.RowKit BS
theorem allKids_at (ks:List Nat) (i:Nat) (hi:i<ks.length) (s:List Nat) (hs:stackF [] (ks.take i)=some s):(allKids 0 [] ks)[i]? =some ((posF i s).take ks[i]):=by
 have e:ks=ks.take i++(ks[i]::ks.drop (i+1)):=by rw [←List.drop_eq_getElem_cons hi,List.take_append_drop]
 have hl:(allKids 0 [] (ks.take i)).length=i:=by rw [allKids_len,List.length_take];omega
 have ea:allKids 0 [] ks=allKids 0 [] (ks.take i)++(posF i s).take ks[i]::allKids (i+1) (stepF s ks[i]) (ks.drop (i+1)):=by
  conv=>lhs;rw [e]
  rw [allKids_append _ _ _ _ _ hs,List.length_take,show 0+min i ks.length=i by omega,allKids]
 rw [ea,List.getElem?_append_right (by omega),hl,Nat.sub_self]
 rfl
def kidsR (l:List NdN) (i:Int):List Int:=if manyF 0 (l.map NdN.kids)=some 1∧0≤i∧i<(l.length:Int) then ((((allKids 0 [] (ksN l))[i.toNat]?).getD []).reverse).map (fun x:Nat=>(x:Int)) else []
set_option maxRecDepth 100000 in
set_option maxHeartbeats 8000000 in
theorem rKids_calls (l:List NdN) (hl:l.length≤1000000) (i0:Int) (a:Option Addr) (cap:Nat) (w:World) (h:NodesAt l a w):
 Calls Tryz.prog 25 #[.slice a l.length cap,.int .i64 i0] w fun e w'=>∃b c,e=.returned (.slice b (kidsR l i0).length c)∧IntsAt (kidsR l i0) b w'∧Below w.heap.size w w':=by
 have HS:=Lib.hid (rSizes_calls l hl a cap w h);have HN:=Lib.hid h;have hsr:(sizesR l).length=if manyF 0 (l.map NdN.kids)=some 1 then l.length else 0:=by
  unfold sizesR
  by_cases hf:manyF 0 (l.map NdN.kids)=some 1
  ·rw [if_pos hf,if_pos hf,List.length_map,sizesF_len];simp [ksN]
  ·rw [if_neg hf,if_neg hf];rfl
 clear h
 by_cases hin:manyF 0 (l.map NdN.kids)=some 1∧0≤i0∧i0<(l.length:Int)
 ·obtain ⟨hf,hi0,hi1⟩:=hin
  obtain ⟨i,rfl⟩:∃i:Nat,i0=i:=⟨i0.toNat,by omega⟩;have hlt:i<l.length:=by omega
  rw [if_pos hf] at hsr;obtain ⟨hk0,hst⟩:=(formed_iff (l.map NdN.kids)).1 hf;have hst:stackF [] (ksN l)=some [(l.map NdN.kids).length]:=hst;have hkl:(ksN l).length=l.length:=by simp [ksN]
  have hlk:i<(ksN l).length:=by rw [hkl];exact hlt
  have hne:l≠[]:=by rintro rfl;simp at hlt
  obtain ⟨g,off,rfl,hg,hc⟩:=HN.out hne;obtain ⟨s,hs,hks,hsum⟩:=stack_at (ksN l) [] _ hst i hlk;obtain ⟨hr,ht,_⟩:=roots_at (ksN l) i hlk s hs;rw [←ht] at hr;have hpl:=len_le_sum s (stackF_pos ((ksN l).take i) [] s (by simp) hs);have hkk:(l[i].kids:Int)=((ksN l)[i]:Nat):=by
   have h0:=hk0 l[i].kids (List.mem_map_of_mem (List.getElem_mem hlt));simp only [ksN,List.getElem_map]
   omega
  have hR:sizesR l=(sizesF [] (ksN l)).map (fun x:Nat=>(x:Int)):=if_pos hf;have hsl:(sizesF [] (ksN l)).length=l.length:=by rw [sizesF_len,hkl]
  have hkid:kidsR l i=(((posF i s).take (ksN l)[i]).reverse).map (fun x:Nat=>(x:Int)):=by
   unfold kidsR;rw [if_pos ⟨hf,hi0,hi1⟩,show (i:Int).toNat=i from rfl,allKids_at (ksN l) i hlk s hs]
   rfl
  have htl:((sizesF [] (ksN l)).take i).length=i:=by rw [List.length_take];omega
  generalize hK:(ksN l)[i]=K at*;generalize sizesF [] (ksN l)=sz at*;have hsumi:s.sum=i:=by simpa using hsum
  have hPl:((posF i s).take K).length=K:=by rw [List.length_take,posF_len];omega
  have hc1:=hc i hlt 1 (by decide);have c0:w.cell? ⟨g,off+i*8+1,none⟩=some (.int .i64 (K:Int)):=by rw [←hkk];exact hc1
  have HK:=Lib.hid hkid;have HRT:=Lib.hid hr;have HR:=Lib.hid hR;have HPL:=Lib.hid hPl;have HC0:=Lib.hid c0;clear hkid hr hR hPl hc1 c0 hk0 hst hs ht hkk hsum hc HN hf hne hlk hkl hK;have hmk:=fun W=>run_make_row' (P:=Tryz.prog) 48 3 (.int .i64 0) 8 Tryz.underlying48 (by kernel_rfl) rfl .i64 .i64 K (by omega) (by omega) W
  have hmz:(madeCells #[Value.int .i64 0] K).size=K:=by simp [madeCells]
  have q0:decide ((i:Int)<0)=false:=by rw [decide_eq_false_iff_not];omega
  have q1:decide (((sizesR l).length:Int)≤(i:Int))=false:=by rw [decide_eq_false_iff_not];omega
  have q1n:decide ((sizesR l).length≤i)=false:=by rw [decide_eq_false_iff_not];omega
  have xi:IntKind.i64.wrap ((i:Int) - 1)=(i:Int) - 1:=IntWalk.i64_in _ (by omega);have xK:IntKind.i64.wrap ((K:Int) - 1)=(K:Int) - 1:=IntWalk.i64_in _ (by omega);generalize madeCells #[Value.int .i64 0] K=vs0 at*;have HSR:=Lib.hid hsr;clear hsr;go_enter Tryz.func25,Tryz.ntmps25
  go_wp2_with fail
  refine HS.out.mono ?_;rintro e w1 ⟨b,c,rfl,hz,hb⟩;obtain ⟨g2,rfl,hg2,hz⟩:=hz (fun h=>by have:=HSR.out;rw [h] at this;simp at this;omega);have c1:=(hb.cell (p:=⟨g,off+i*8+1,none⟩) hg).trans HC0.out;have hBn:=Blk.new w1 vs0 3;have hB0:Below w1.heap.size w1 (w1.alloc (.cells vs0 3)):=(Below.refl _ _).alloc (Nat.le_refl _) _;have HZ:=Lib.hid hz;have HB1:=Lib.hid hb;clear hz hb HS
  go_wp2_with fail
  generalize hw2:w1.alloc (.cells vs0 3)=w2 at*;clear hmk hw2 c1
  go_loopw [7,8] (fun va vk wr=>∃j:Nat,j≤K∧va=.int .i64 ((i:Int) - 1 - ((s.take j).sum:Nat))∧vk=.int .i64 ((K:Int) - 1 - (j:Int))∧(∃vs:Array Value,vs.size=K∧(∀t,t<j→vs[K - 1 - t]? =some (.int .i64 ((i - (s.take t).sum - 1:Nat):Int)))∧Blk wr w1.heap.size vs 3)∧Below w1.heap.size w1 wr) (fun _ vk _=>(intOf vk+1).toNat)
  case atStart=>exact ⟨0,Nat.zero_le _,by simp,by simp,⟨vs0,hmz,fun t ht=>by omega,hBn⟩,hB0⟩
  case round=>
   clear hBn hB0 hmz;obtain ⟨j,hj,rfl,rfl,⟨vs,hvs,hno,hb⟩,hB⟩:=hrel
   by_cases hjl:j<K
   ·obtain ⟨r1,r2⟩:=HRT.out j (by omega)
    rw [htl] at r1 r2;have hts:=take_sum s j (by omega);have hle2:=take_sum_le s (j+1);generalize hS:(s.take j).sum=S at*;generalize hS1:(s.take (j+1)).sum=S1 at*;generalize s[j]=z at*;have hpz:i - 1 - S<sz.length:=by omega
    have hz:sz[i - 1 - S]=z:=by
     rw [List.getElem?_take,if_pos (by omega),List.getElem?_eq_getElem hpz] at r2;exact Option.some.inj r2
    have hps:i - 1 - S<(sizesR l).length:=by have:=HSR.out;omega
    have cz:=(hB.cell (p:=⟨g2,i - 1 - S,none⟩) hg2).trans (HZ.out (i - 1 - S) hps);have ez:(sizesR l)[i - 1 - S]=(z:Int):=by simp only [HR.out,List.getElem_map,hz]
    rw [ez] at cz;obtain ⟨old,hold⟩:∃old,vs[K - 1 - j]? =some old:=⟨vs[K - 1 - j]'(by omega),by simp [show K - 1 - j<vs.size by omega]⟩;have hci:=(hb.cell (K - 1 - j)).trans hold;have hfi:=hb.frozen (K - 1 - j);have hat:(i:Int) - 1 - (S:Int)=((i - 1 - S:Nat):Int):=by omega
    have hkt:(K:Int) - 1 - (j:Int)=((K - 1 - j:Nat):Int):=by omega
    have cz2:((wr.setCell ⟨w1.heap.size,K - 1 - j,none⟩ (.int .i64 ((i - 1 - S:Nat):Int)))).cell? ⟨g2,i - 1 - S,none⟩=some (.int .i64 (z:Int)):=(World.cell?_of_block (w:=wr) (a:=⟨g2,i - 1 - S,none⟩) (Below.heap_setCell wr ⟨w1.heap.size,K - 1 - j,none⟩ _ g2 (Nat.ne_of_lt hg2))).trans cz;have HTS:=Lib.hid hts;have HLE2:=Lib.hid hle2;have HAT:=Lib.hid hat;have HKT:=Lib.hid hkt;have HS1:=Lib.hid hS1;have HSS:=Lib.hid hS;have HNO:=Lib.hid hno;have HBK:=Lib.hid hb;have HB:=Lib.hid hB;have hpn:i - 1 - S<l.length:=by omega
    have hrl:(sizesR l).length=l.length:=HSR.out;have hzb:S+z≤i:=by omega
    rw [hat,hkt];clear hts hle2 hat hkt hS hS1 r1 r2 hz ez hold hno hb hB hps hpz cz;generalize hP:i - 1 - S=p at*;have HP:=Lib.hid hP;clear hP;generalize hQ:K - 1 - j=qk at*;have hqK:qk<K:=by omega
    have HQ:=Lib.hid hQ;clear hQ;have xz:IntKind.i64.wrap ((p:Int) - (z:Int))=(p:Int) - (z:Int):=IntWalk.i64_in _ (by omega);have xq:IntKind.i64.wrap ((qk:Int) - 1)=(qk:Int) - 1:=IntWalk.i64_in _ (by omega);have hq0:decide ((0:Int)≤(qk:Int))=true:=by rw [decide_eq_true_iff];omega
    have XZ:=Lib.hid xz;have XQ:=Lib.hid xq
    go_wp2_with fail
    go_roundw
    case rel=>
     have e1:=HTS.out;have e2:=HAT.out;have e3:=HS1.out;have e4:=XZ.out;have e5:=XQ.out;have e6:=HKT.out;have e7:=HQ.out;have e8:=HP.out;refine ⟨j+1,by omega,by rw [e3,e1];congr 1;omega,by congr 1;omega,⟨vs.setIfInBounds qk (.int .i64 (p:Int)),by simp [hvs],fun t ht=>?_,HBK.out.set qk _⟩,below_set HB.out (Nat.le_refl _) qk _⟩
     by_cases htj:t=j
     ·subst htj
      rw [e7,HSS.out];have:i - S - 1=p:=by omega
      rw [this]
      simp [hvs,hqK]
     ·rw [Array.getElem?_setIfInBounds_ne (by omega)]
      exact HNO.out t (by omega)
    case measure=>simp [intOf]<;>omega
   ·obtain rfl:j=K:=by omega
    have hq0:decide ((0:Int)≤(j:Int) - 1 - (j:Int))=false:=by rw [decide_eq_false_iff_not];omega
    have HB:=Lib.hid hB;have HBK:=Lib.hid hb;have HNO:=Lib.hid hno;clear hB hb hno
    go_wp2_with fail
    go_ret;have hkl:(kidsR l i).length=j:=by rw [HK.out,List.length_map,List.length_reverse,HPL.out]
    refine ⟨some ⟨w1.heap.size,0,none⟩,j,by rw [hkl]<;>rfl,fun _=>⟨w1.heap.size,rfl,HBK.out.lt,fun x hx=>?_⟩,HB1.out.trans (HB.out.mono HB1.out.size)⟩;rw [hkl] at hx;have h1:=(HBK.out.cell (j - 1 - (j - 1 - x))).trans (HNO.out (j - 1 - x) (by omega));rw [show j - 1 - (j - 1 - x)=x by omega] at h1;rw [h1];have hlen:=HPL.out;have hg':(kidsR l i)[x]=((((posF i s).take j)[j - 1 - x]'(by omega):Nat):Int):=by
     simp only [HK.out,List.getElem_map,List.getElem_reverse,hlen]
    rw [hg',List.getElem_take,posF_get]
 ·have hk:kidsR l i0=[]:=if_neg hin
  rw [hk];have hbad:i0<0∨((sizesR l).length:Int)≤i0:=by
   rw [hsr]
   by_cases hf:manyF 0 (l.map NdN.kids)=some 1
   ·rw [if_pos hf]
    by_cases h0:i0<0
    ·exact .inl h0
    ·exact .inr (Int.not_lt.1 fun h=>hin ⟨hf,by omega,h⟩)
   ·rw [if_neg hf]
    by_cases h0:i0<0
    ·exact .inl h0
    ·exact .inr (by show (0:Int)≤i0;omega)
  generalize sizesR l=z at*;clear hk hin hsr
  by_cases h0:i0<0
  ·have q0:decide (i0<0)=true:=decide_eq_true h0
   clear h0 hbad;go_enter Tryz.func25,Tryz.ntmps25
   go_wp2_with fail
   refine HS.out.mono ?_;rintro e w1 ⟨b,c,rfl,_,hb⟩
   go_wp2_with fail
   go_ret;exact ⟨none,0,rfl,fun h=>absurd rfl h,hb⟩
  ·have q0:decide (i0<0)=false:=decide_eq_false h0
   have q1:decide ((z.length:Int)≤i0)=true:=by rw [decide_eq_true_iff];omega
   clear h0 hbad;go_enter Tryz.func25,Tryz.ntmps25
   go_wp2_with fail
   refine HS.out.mono ?_;rintro e w1 ⟨b,c,rfl,_,hb⟩
   go_wp2_with fail
   go_ret;exact ⟨none,0,rfl,fun h=>absurd rfl h,hb⟩
end Go.Proofs.YtbccojjcdcighaaGreatDoor

namespace Go.Proofs.YtbccojjcdcighaaGreatDoor
open Go.RowKit BS
theorem sizesR_len (l:List NdN):(sizesR l).length=if manyF 0 (l.map NdN.kids)=some 1 then l.length else 0:=by
 unfold sizesR
 by_cases hf:manyF 0 (l.map NdN.kids)=some 1
 ·rw [if_pos hf,if_pos hf,List.length_map,sizesF_len];simp [ksN]
 ·rw [if_neg hf,if_neg hf];rfl
def kdN (l:List NdN):Nat→Int:=kindF (l.map NdN.kind)
def fiN (l:List NdN) (i:Nat):Int:=(i:Int) - (sizesR l).getD i 0
def numsR (l:List NdN):List Int:=(List.range (sizesR l).length).map fun i=>((numF (kdN l) (fiN l) (sizesR l).length i:Nat):Int)
theorem kdN_get (l:List NdN) (i:Nat) (h:i<l.length):kdN l i=l[i].kind:=by
 unfold kdN kindF;rw [List.getD_eq_getElem?_getD,List.getElem?_eq_getElem (by simpa using h),Option.getD_some,List.getElem_map]
theorem fiN_get (l:List NdN) (i:Nat) (h:i<(sizesR l).length):fiN l i=(i:Int) - (sizesR l)[i]:=by
 unfold fiN;rw [List.getD_eq_getElem?_getD,List.getElem?_eq_getElem h,Option.getD_some]
def nodeF (x:NdN):Bool:=
 if x.kind≠2∧x.set≠0 then false
 else if x.kind≠4∧(x.n≠0∨x.m≠0) then false
 else if x.kind=1∨x.kind=2 then x.kids==0
 else if x.kind=3 then x.kids==1
 else if x.kind=4 then x.kids==1 && rightN x.n x.m
 else if x.kind=5∨x.kind=6 then decide (2≤x.kids)
 else false
def kidsOkB (l:List NdN) (i:Nat):Bool:=(kidsR l i).all fun x=>kidF (kdN l i) (kdN l x.toNat)
def okN (l:List NdN) (i:Nat):Bool:=nodeF (l.getD i ⟨0,0,0,0,0⟩) && kidsOkB l i
def grpN (l:List NdN) (k:Nat):Nat:=(List.range k).countP fun i=>kdN l i==3
def rightR (l:List NdN):Bool:=decide (manyF 0 (l.map NdN.kids)=some 1) && ((List.range l.length).all (okN l) && decide (grpN l l.length≤9))
theorem grpN_step (l:List NdN) (k:Nat):grpN l (k+1)=grpN l k+if (kdN l k==3)=true then 1 else 0:=by
 unfold grpN;rw [List.range_succ,List.countP_append]
 simp [List.countP_cons]
theorem grpN_le (l:List NdN) (k:Nat):grpN l k≤k:=by
 unfold grpN;have:=List.countP_le_length (p:=fun i=>kdN l i==3) (l:=List.range k);rw [List.length_range] at this;exact this
end Go.Proofs.YtbccojjcdcighaaGreatDoor

namespace Go.Proofs.YtbccojjcdcighaaGreatDoor
open Go.RowKit BS
end Go.Proofs.YtbccojjcdcighaaGreatDoor

namespace Go.Proofs.YtbccojjcdcighaaGreatDoor
open Go.RowKit
structure TreeL (n:Nat) (fi:Nat→Int) (kids:Nat→List Nat):Prop where
 lo:∀i,i<n→-1≤fi i∧fi i<i
 tile:∀i,i<n→∀k:Nat,(fi i<k∧k≤i)↔(k=i∨∃c∈kids i,fi c<k∧k≤c)
 chain:∀i,i<n→(kids i).Pairwise fun (c d:Nat)=>(c:Int)≤fi d
 below:∀i,i<n→∀c∈kids i,c<i
 last:fi (n - 1)= -1
 some':0<n
variable {n : Nat} {fi : Nat → Int} {kids : Nat → List Nat}
theorem TreeL.kid_lo (T:TreeL n fi kids) {i c:Nat} (hi:i<n) (hc:c∈kids i):fi i≤fi c:=by
 have hb:=T.below i hi c hc;have hl:=T.lo c (by omega);have h:=(T.tile i hi (fi c+1).toNat).2 (.inr ⟨c,hc,by omega⟩)
 omega
theorem TreeL.lam (T:TreeL n fi kids):∀(r:Nat),r<n→∀v:Nat,fi r<v→v≤r→fi r≤fi v:=by
 intro r
 induction r using Nat.strongRecOn with
 |ind r ih=>
  intro hr v h1 h2;rcases (T.tile r hr v).1 ⟨h1,h2⟩ with rfl|⟨c,hc,h3,h4⟩
  ·exact Int.le_refl _
  ·have hb:=T.below r hr c hc
   exact Int.le_trans (T.kid_lo hr hc) (ih c hb (by omega) v h3 h4)
def inU (fi:Nat→Int) (st:List Nat) (k:Nat):Bool:=st.any fun r=>decide (fi r<k) && decide (k≤r)
theorem inU_iff (st:List Nat) (k:Nat):inU fi st k=true↔∃r∈st,fi r<k∧k≤r:=by simp [inU]
structure Pre (n:Nat) (fi:Nat→Int) (st:List Nat):Prop where
 lt:∀r∈st,r<n
 pw:st.Pairwise fun (r s:Nat)=>(r:Int)≤fi s
 old:∀u v:Nat,u<n→v<n→inU fi st u=false→inU fi st v=true→fi u<fi v∨(fi u=fi v∧v<u)
theorem Pre.start (T:TreeL n fi kids):Pre n fi [n - 1]∧∀k,k<n→inU fi [n - 1] k=true:=by
 have h0:=T.some';have hU:∀k,k<n→inU fi [n - 1] k=true:=fun k hk=>(inU_iff _ _).2 ⟨n - 1,by simp,by rw [T.last];omega,by omega⟩
 refine ⟨⟨fun r hr=>?_,by simp,fun u v hu _ h _=>?_⟩,hU⟩
 ·rw [List.mem_singleton] at hr;omega
 ·rw [hU u hu] at h;cases h
theorem Pre.next (T:TreeL n fi kids) {r:Nat} {st:List Nat} (h:Pre n fi (r::st)):inU fi (r::st) r=true∧(∀k,inU fi (kids r++st) k=true↔(inU fi (r::st) k=true∧k≠r))∧
 (∀v,v<n→inU fi (r::st) v=true→v≠r→fi r<fi v∨(fi r=fi v∧v<r))∧Pre n fi (kids r++st):=by
 have hr:=h.lt r (List.mem_cons_self ..);have hlo:=T.lo r hr;have hpw:=List.pairwise_cons.1 h.pw;have hUr:inU fi (r::st) r=true:=(inU_iff _ _).2 ⟨r,List.mem_cons_self ..,hlo.2,Nat.le_refl _⟩;have hU:∀k,inU fi (kids r++st) k=true↔(inU fi (r::st) k=true∧k≠r):=by
  intro k;rw [inU_iff,inU_iff]
  constructor
  ·rintro ⟨c,hc,h1,h2⟩
   rcases List.mem_append.1 hc with hc|hc
   ·have hb:=T.below r hr c hc
    have:=(T.tile r hr k).2 (.inr ⟨c,hc,h1,h2⟩);exact ⟨⟨r,List.mem_cons_self ..,this.1,by omega⟩,by omega⟩
   ·have:=hpw.1 c hc
    exact ⟨⟨c,List.mem_cons_of_mem _ hc,h1,h2⟩,by omega⟩
  ·rintro ⟨⟨c,hc,h1,h2⟩,hne⟩
   rcases List.mem_cons.1 hc with rfl|hc
   ·rcases (T.tile c hr k).1 ⟨h1,h2⟩ with h|⟨d,hd,h3,h4⟩
    ·exact absurd h hne
    ·exact ⟨d,List.mem_append_left _ hd,h3,h4⟩
   ·exact ⟨c,List.mem_append_right _ hc,h1,h2⟩
 have hmin:∀v,v<n→inU fi (r::st) v=true→v≠r→fi r<fi v∨(fi r=fi v∧v<r):=by
  intro v hv hvU hne;obtain ⟨c,hc,h1,h2⟩:=(inU_iff _ _).1 hvU;rcases List.mem_cons.1 hc with rfl|hc
  ·have:=T.lam c hr v h1 h2
   omega
  ·have h3:=hpw.1 c hc
   have h4:=T.lam c (h.lt c (List.mem_cons_of_mem _ hc)) v h1 h2
   omega
 refine ⟨hUr,hU,hmin,⟨fun s hs=>?_,?_,fun u v hu hv h1 h2=>?_⟩⟩
 ·rcases List.mem_append.1 hs with hs|hs
  ·have:=T.below r hr s hs;omega
  ·exact h.lt s (List.mem_cons_of_mem _ hs)
 ·rw [List.pairwise_append]
  refine ⟨T.chain r hr,hpw.2,fun c hc s hs=>?_⟩;have:=T.below r hr c hc;have:=hpw.1 s hs
  omega
 ·obtain ⟨h3,h4⟩:=(hU v).1 h2
  by_cases hur:u=r
  ·subst hur;exact hmin v hv h3 h4
  ·refine h.old u v hu hv ?_ h3
   cases hx:inU fi (r::st) u with
   |false=>rfl
   |true=>rw [(hU u).2 ⟨hx,hur⟩] at h1;cases h1
def cntU (kd fi:Nat→Int) (n:Nat) (st:List Nat):Nat:=(List.range n).countP fun k=>kd k==3 && !inU fi st k
theorem countP_add (p q:Nat→Bool) (r:Nat) (hp:p r=true) (hq:q r=false) (h:∀k,k≠r→p k=q k):∀n,r<n→(List.range n).countP p=(List.range n).countP q+1
 |n+1,hn=>by
  have he:∀m,m≤r→(List.range m).countP p=(List.range m).countP q:=fun m hm=>List.countP_congr fun x hx=>by
   have:=List.mem_range.1 hx;rw [h x (by omega)]
  rw [List.range_succ,List.countP_append,List.countP_append,List.countP_singleton,List.countP_singleton]
  by_cases hr:r=n
  ·subst hr
   rw [hp,hq,he r (Nat.le_refl _)];simp
  ·have:=countP_add p q r hp hq h n (by omega)
   rw [this,h n (by omega)]
   omega
theorem countP_same (p q:Nat→Bool) (n:Nat) (h:∀k,k<n→p k=q k):(List.range n).countP p=(List.range n).countP q:=
 List.countP_congr fun x hx=>by rw [h x (List.mem_range.1 hx)]
theorem cntU_le (kd:Nat→Int) (st:List Nat):cntU kd fi n st≤n:=by
 unfold cntU;have:=List.countP_le_length (p:=fun k=>kd k==3 && !inU fi st k) (l:=List.range n);rw [List.length_range] at this;exact this
theorem Pre.count (T:TreeL n fi kids) (kd:Nat→Int) {r:Nat} {st:List Nat} (h:Pre n fi (r::st)):
 (kd r=3→cntU kd fi n (kids r++st)=cntU kd fi n (r::st)+1∧numF kd fi n r=cntU kd fi n (r::st)+1)∧(kd r≠3→cntU kd fi n (kids r++st)=cntU kd fi n (r::st)):=by
 obtain ⟨hUr,hU,hmin,-⟩:=Pre.next T h;have hr:=h.lt r (List.mem_cons_self ..);have hu:∀k,k≠r→inU fi (kids r++st) k=inU fi (r::st) k:=fun k hk=>by
  rw [Bool.eq_iff_iff,hU k];exact ⟨fun h=>h.1,fun h=>⟨h,hk⟩⟩
 have hUn:inU fi (kids r++st) r=false:=by
  cases hx:inU fi (kids r++st) r with
  |false=>rfl
  |true=>exact absurd rfl ((hU r).1 hx).2
 refine ⟨fun h3=>⟨?_,?_⟩,fun h3=>?_⟩
 ·unfold cntU
  exact countP_add (fun k=>kd k==3 && !inU fi (kids r++st) k) (fun k=>kd k==3 && !inU fi (r::st) k) r (by simp only [h3,hUn];rfl) (by simp only [hUr,Bool.not_true,Bool.and_false]) (fun k hk=>by rw [hu k hk]) n hr
 ·rw [num_count kd fi n r h3]
  unfold cntU;have hx:∀k,k<n→k≠r→(leF fi k r= !inU fi (r::st) k):=fun k hk hne=>by
   cases hx:inU fi (r::st) k with
   |true=>
    have:=hmin k hk hx hne;rw [Bool.not_true,←Bool.not_eq_true,leF_iff]
    omega
   |false=>
    have:=h.old k r hk hr hx hUr;rw [Bool.not_false,leF_iff]
    omega
  rw [countP_same (fun k=>kd k==3 && leF fi k r) (fun k=>kd k==3 && (k==r|| !inU fi (r::st) k)) n (fun k hk=>by
   by_cases hne:k=r
   ·subst hne
    rw [(leF_iff fi k k).2 (.inr ⟨rfl,Nat.le_refl _⟩)];simp
   ·have e:(k==r)=false:=by rw [beq_eq_false_iff_ne];exact hne
    simp only [hx k hk hne,e,Bool.false_or])]
  exact countP_add (fun k=>kd k==3 && (k==r|| !inU fi (r::st) k)) (fun k=>kd k==3 && !inU fi (r::st) k) r (by simp [h3]) (by simp only [hUr,Bool.not_true,Bool.and_false]) (fun k hk=>by
   have e:(k==r)=false:=by rw [beq_eq_false_iff_ne];exact hk
   simp only [e,Bool.false_or]) n hr
 ·unfold cntU
  refine countP_same _ _ n fun k hk=>?_
  by_cases hne:k=r
  ·subst hne
   have:(kd k==3)=false:=by rw [beq_eq_false_iff_ne];exact h3
   rw [this];rfl
  ·rw [hu k hne]
def leftU (fi:Nat→Int) (n:Nat) (st:List Nat):Nat:=(List.range n).countP (inU fi st)
theorem Pre.left (T:TreeL n fi kids) {r:Nat} {st:List Nat} (h:Pre n fi (r::st)):leftU fi n (r::st)=leftU fi n (kids r++st)+1:=by
 obtain ⟨hUr,hU,-,-⟩:=Pre.next T h;have hr:=h.lt r (List.mem_cons_self ..);unfold leftU;refine countP_add _ _ r hUr ?_ (fun k hk=>?_) n hr
 ·cases hx:inU fi (kids r++st) r with
  |false=>rfl
  |true=>exact absurd rfl ((hU r).1 hx).2
 ·rw [Bool.eq_iff_iff,hU k]
  exact ⟨fun h=>⟨h,hk⟩,fun h=>h.1⟩
theorem leftU_le (st:List Nat):leftU fi n st≤n:=by
 have:=List.countP_le_length (p:=inU fi st) (l:=List.range n);rw [List.length_range] at this;exact this
theorem nodup_le:∀(a b:List Nat),a.Nodup→(∀x∈a,x∈b)→a.length≤b.length
 |[],_,_,_=>Nat.zero_le _
 |x::a,b,hn,hs=>by
  rw [List.nodup_cons] at hn;have hx:=hs x (List.mem_cons_self ..);have ih:=nodup_le a (b.erase x) hn.2 (fun y hy=>(List.mem_erase_of_ne (by rintro rfl;exact hn.1 hy)).2 (hs y (List.mem_cons_of_mem _ hy)));rw [List.length_erase_of_mem hx] at ih;have:=List.length_pos_of_mem hx;rw [List.length_cons]
  omega
theorem Pre.few (T:TreeL n fi kids):∀{st:List Nat},Pre n fi st→st.length≤leftU fi n st:=by
 intro st h;unfold leftU;have hnd:st.Nodup:=by
  refine h.pw.imp_of_mem (fun {a b} ha hb hab he=>?_);subst he;have:=T.lo a (h.lt a ha)
  omega
 have hsub:∀x∈st,x∈(List.range n).filter (inU fi st):=fun x hx=>by
  rw [List.mem_filter,List.mem_range];exact ⟨h.lt x hx,(inU_iff _ _).2 ⟨x,hx,(T.lo x (h.lt x hx)).2,Nat.le_refl _⟩⟩
 rw [List.countP_eq_length_filter];exact nodup_le _ _ hnd hsub
theorem between_sums (s:List Nat):∀(K d:Nat),K≤s.length→d<(s.take K).sum→∃j,j<K∧(s.take j).sum≤d∧d<(s.take (j+1)).sum
 |0,d,_,h=>by simp at h
 |K+1,d,hk,h=>by
  by_cases h1:d<(s.take K).sum
  ·obtain ⟨j,hj,h2,h3⟩:=between_sums s K d (by omega) h1
   exact ⟨j,by omega,h2,h3⟩
  ·exact ⟨K,by omega,by omega,h⟩
theorem sums_mono (s:List Nat) {i j:Nat} (h:i≤j):(s.take i).sum≤(s.take j).sum:=by
 have e:s.take i=(s.take j).take i:=by rw [List.take_take,Nat.min_eq_left h]
 rw [e];exact take_sum_le _ _
def kidsN (l:List NdN) (i:Nat):List Nat:=(((allKids 0 [] (ksN l))[i]?).getD []).reverse
theorem kidsR_N (l:List NdN) (hf:manyF 0 (l.map NdN.kids)=some 1) (i:Nat) (hi:i<l.length):kidsR l i=(kidsN l i).map (fun x:Nat=>(x:Int)):=by
 unfold kidsR kidsN;rw [if_pos ⟨hf,by omega,by omega⟩]
 rfl
theorem treeL (l:List NdN) (hf:manyF 0 (l.map NdN.kids)=some 1):TreeL l.length (fiN l) (kidsN l):=by
 obtain ⟨_,hst⟩:=(formed_iff (l.map NdN.kids)).1 hf;have hst:stackF [] (ksN l)=some [(l.map NdN.kids).length]:=hst;rw [List.length_map] at hst;have hkl:(ksN l).length=l.length:=by simp [ksN]
 have hsl:(sizesF [] (ksN l)).length=l.length:=by rw [sizesF_len,hkl]
 have hRl:(sizesR l).length=l.length:=by rw [sizesR_len,if_pos hf]
 have hfi:∀x z:Nat,(sizesF [] (ksN l))[x]? =some z→fiN l x=(x:Int) - (z:Int):=fun x z h=>by
  have hx:x<(sizesF [] (ksN l)).length:=(List.getElem?_eq_some_iff.1 h).1;rw [fiN_get l x (by omega)];have hR:sizesR l=(sizesF [] (ksN l)).map (fun x:Nat=>(x:Int)):=if_pos hf;have:(sizesR l)[x]'(by omega)=(z:Int):=by
   simp only [hR,List.getElem_map];rw [List.getElem?_eq_getElem hx] at h;rw [Option.some.inj h]
  rw [this]
 -- of each node:its stack,and what it says
 have key:∀i,i<l.length→∃s:List Nat,∃K:Nat,K≤s.length∧s.sum=i∧(∀x∈s,0<x)∧fiN l i=(i:Int) - 1 - ((s.take K).sum:Nat)∧kidsN l i=((posF i s).take K).reverse∧(∀j (h:j<(posF i s).length),(s.take (j+1)).sum≤i∧(posF i s)[j]+1+(s.take j).sum=i∧fiN l (posF i s)[j]=(i:Int) - 1 - ((s.take (j+1)).sum:Nat)):=by
  intro i hi;have hlk:i<(ksN l).length:=by omega
  obtain ⟨s,hs,hks,hsum⟩:=stack_at (ksN l) [] _ hst i hlk;obtain ⟨hr,ht,hsi⟩:=roots_at (ksN l) i hlk s hs;have hp:=stackF_pos ((ksN l).take i) [] s (by simp) hs;have hsum:s.sum=i:=by simpa using hsum
  refine ⟨s,(ksN l)[i],hks,hsum,hp,?_,?_,?_⟩
  ·rw [hfi i _ hsi];omega
  ·unfold kidsN
   rw [allKids_at (ksN l) i hlk s hs];rfl
  ·intro j hj
   have hj':j<s.length:=by rw [posF_len] at hj;exact hj
   obtain ⟨h1,h2⟩:=kid_at s i j hp (by omega) hj' hj;have h3:=kid_size (sizesF [] ((ksN l).take i)) s i j (by rw [sizesF_len,List.length_take];omega) hr hj' hj;rw [←ht,List.getElem?_take,if_pos (by omega)] at h3;have h4:=take_sum s j hj';have h5:=take_sum_le s (j+1);refine ⟨by omega,h1,?_⟩;rw [hfi _ _ h3]
   omega
 have hn:0<l.length:=by
  rcases Nat.eq_zero_or_pos l.length with h|h
  ·rw [List.length_eq_zero_iff] at h;subst h;cases hf
  ·exact h
 refine ⟨fun i hi=>?_,fun i hi k=>?_,fun i hi=>?_,fun i hi c hc=>?_,?_,hn⟩
 ·obtain ⟨s,K,hK,hsum,hp,h1,-,-⟩:=key i hi
  have:=take_sum_le s K
  omega
 ·obtain ⟨s,K,hK,hsum,hp,h1,h2,h3⟩:=key i hi
  rw [h1,h2];have hle:=take_sum_le s K
  constructor
  ·rintro ⟨h4,h5⟩
   by_cases hki:k=i
   ·exact .inl hki
   ·obtain ⟨j,hj,h6,h7⟩:=between_sums s K (i - 1 - k) hK (by omega)
    have hjl:j<(posF i s).length:=by rw [posF_len];omega
    obtain ⟨h8,h9,h10⟩:=h3 j hjl;refine .inr ⟨(posF i s)[j],?_,by rw [h10];omega,by omega⟩;rw [List.mem_reverse,List.mem_take_iff_getElem];exact ⟨j,by omega,rfl⟩
  ·rintro (rfl|⟨c,hc,h4,h5⟩)
   ·omega
   ·rw [List.mem_reverse,List.mem_take_iff_getElem] at hc
    obtain ⟨j,hj,rfl⟩:=hc;obtain ⟨h8,h9,h10⟩:=h3 j (by omega);have:=sums_mono s (show j+1≤K by omega);rw [h10] at h4
    omega
 ·obtain ⟨s,K,hK,hsum,hp,h1,h2,h3⟩:=key i hi
  rw [h2,List.pairwise_reverse,List.pairwise_iff_getElem];intro a b ha hb hab;rw [List.length_take] at ha hb;rw [List.getElem_take,List.getElem_take];obtain ⟨h8,h9,h10⟩:=h3 a (by omega);obtain ⟨h11,h12,h13⟩:=h3 b (by omega);have:=sums_mono s (show a+1≤b by omega);rw [h10]
  omega
 ·obtain ⟨s,K,hK,hsum,hp,h1,h2,h3⟩:=key i hi
  rw [h2,List.mem_reverse,List.mem_take_iff_getElem] at hc;obtain ⟨j,hj,rfl⟩:=hc;obtain ⟨h8,h9,h10⟩:=h3 j (by omega)
  omega
 ·have h:=stackF_sum _ _ _ hst
  obtain ⟨st,hs⟩:∃st,stackF [] (ksN l)=some st:=⟨_,hst⟩;have hr:=roots_all (ksN l) [] [] _ (by simp) (by intro j hj;simp at hj) hst 0 (by simp);rw [List.nil_append,List.take_zero,List.sum_nil,Nat.sub_zero,hsl] at hr;have:=hfi (l.length - 1) _ hr.2;rw [this]
  simp
  omega
end Go.Proofs.YtbccojjcdcighaaGreatDoor

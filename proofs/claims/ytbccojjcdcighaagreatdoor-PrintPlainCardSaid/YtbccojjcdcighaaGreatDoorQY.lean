/- Texts put together: Pa. -/
import Derived.Test.YtbccojjcdcighaaGreatDoorQT
namespace Go.Proofs.YtbccojjcdcighaaGreatDoor
open Go.RowKit BS
def stepK (st:List Int) (x:NdN):Option (List Int):=
 if nodeF x=true∧0≤x.kids∧x.kids.toNat≤st.length∧((st.take x.kids.toNat).all fun k=>kidF x.kind k)=true then some (x.kind::st.drop x.kids.toNat) else none
def kstF (st:List Int):List NdN→Option (List Int)
 |[]=>some st
 |x::l=>(stepK st x).bind fun st'=>kstF st' l
theorem kstF_append:∀(l m:List NdN) (st:List Int),kstF st (l++m)=(kstF st l).bind fun st'=>kstF st' m
 |[],m,st=>rfl
 |x::l,m,st=>by
  rw [List.cons_append,kstF,kstF]
  cases stepK st x with
  |none=>rfl
  |some s=>simp only [Option.bind_some];exact kstF_append l m s
theorem kstF_one (st:List Int) (x:NdN):kstF st [x]=stepK st x:=by
 rw [kstF]
 cases stepK st x<;>rfl
theorem kstF_snoc (l:List NdN) (x:NdN) (st st':List Int) (h:kstF st l=some st'):kstF st (l++[x])=stepK st' x:=by
 rw [kstF_append,h,Option.bind_some,kstF_one]
theorem stepK_some (st st':List Int) (x:NdN) (h:stepK st x=some st'):nodeF x=true∧0≤x.kids∧x.kids.toNat≤st.length∧(∀k∈st.take x.kids.toNat,kidF x.kind k=true)∧st'=x.kind::st.drop x.kids.toNat:=by
 unfold stepK at h
 split at h
 ·rename_i hc
  exact ⟨hc.1,hc.2.1,hc.2.2.1,fun k hk=>List.all_eq_true.1 hc.2.2.2 k hk,(Option.some.inj h).symm⟩
 ·cases h
theorem kst_inv:∀(n:Nat) (l:List NdN),l.length=n→∀ks,kstF [] l=some ks→
 ∃st,stackF [] (ksN l)=some st∧(posF l.length st).map (kindF (l.map NdN.kind))=ks∧(∀x∈l,nodeF x=true∧0≤x.kids)∧RightKids (l.map NdN.kind) (ksN l)
 |0,l,hl,ks,h=>by
  obtain rfl:l=[]:=List.eq_nil_of_length_eq_zero hl;obtain rfl:[]=ks:=by rw [kstF] at h;exact Option.some.inj h
  exact ⟨[],rfl,rfl,(fun x hx=>by simp at hx),trivial⟩
 |n+1,l,hl,ks,h=>by
  obtain ⟨m,x,rfl⟩:∃m x,l=m++[x]:=by
   have hne:l≠[]:=by rintro rfl;simp at hl
   exact ⟨l.dropLast,l.getLast hne,(List.dropLast_concat_getLast hne).symm⟩
  have hm:m.length=n:=by simpa using hl
  rw [kstF_append] at h
  cases hk:kstF [] m with
  |none=>rw [hk] at h;cases h
  |some ks0=>
   rw [hk,Option.bind_some,kstF_one] at h;obtain ⟨st,h1,h2,h3,h4⟩:=kst_inv n m hm ks0 hk;obtain ⟨g1,g2,g3,g4,rfl⟩:=stepK_some ks0 ks x h;have hkl:(ksN m).length=m.length:=by simp [ksN]
   have hstl:st.length=ks0.length:=by rw [←h2,List.length_map,posF_len]
   have ek:ksN (m++[x])=ksN m++[x.kids.toNat]:=by rw [ksN_app];rfl
   have em:(m++[x]).map NdN.kind=m.map NdN.kind++[x.kind]:=by simp
   have hpos:=stackF_pos (ksN m) [] st (by simp) h1;have hsum:=stackF_sum (ksN m) [] st h1;have hsum2:st.sum=m.length:=by rw [hsum];simp [hkl]
   have hlast:kindF (m.map NdN.kind++[x.kind]) m.length=x.kind:=by
    have:=kindF_right (m.map NdN.kind) [x.kind] 0;rw [List.length_map,Nat.zero_add] at this;exact this
   have hlt:∀y∈posF m.length st,y<m.length:=fun y hy=>by
    cases hc:st with
    |nil=>rw [hc] at hy;cases hy
    |cons z st2=>
     have:0<m.length:=by
      have:=hpos z (by rw [hc];exact List.mem_cons_self ..);rw [←hsum2,hc,List.sum_cons];omega
     exact posF_lt m.length st this y hy
   have hmap:(posF m.length st).map (kindF (m.map NdN.kind++[x.kind]))=ks0:=by
    rw [←h2];exact List.map_congr_left fun y hy=>kindF_left _ _ y (by rw [List.length_map];exact hlt y hy)
   refine ⟨stepF st x.kids.toNat,?_,?_,?_,?_⟩
   ·rw [ek,stackF_snoc,h1,Option.bind_some,if_pos (by omega)]
   ·rw [em,List.length_append,show ([x]:List NdN).length=1 from rfl,posF_step,List.map_cons,hlast]
    congr 1
    have hsp:=posF_split x.kids.toNat st m.length;have hd:(posF m.length st).drop x.kids.toNat=posF (m.length - (st.take x.kids.toNat).sum) (st.drop x.kids.toNat):=by
     conv=>lhs;rw [hsp]
     rw [List.drop_append_of_le_length (by rw [List.length_take,posF_len];omega),List.drop_of_length_le (by rw [List.length_take];omega),List.nil_append]
    rw [←hd,List.map_drop,hmap]
   ·intro y hy
    rcases List.mem_append.1 hy with h|h
    ·exact h3 y h
    ·rw [List.mem_singleton.1 h];exact ⟨g1,g2⟩
   ·unfold RightKids
    rw [em,ek,allKids_append _ _ _ _ _ h1,kidsOk_append,allKids_len,Nat.zero_add,hkl];refine ⟨?_,?_,trivial⟩
    ·exact (rightKids_left (m.map NdN.kind) [x.kind] (ksN m) (by rw [List.length_map,hkl])).2 h4
    ·intro y hy
     rw [hlast];refine g4 _ ?_;have:kindF (m.map NdN.kind++[x.kind]) y∈((posF m.length st).take x.kids.toNat).map (kindF (m.map NdN.kind++[x.kind])):=List.mem_map_of_mem hy
     rwa [List.map_take,hmap] at this
theorem kst_right (l:List NdN) (k:Int) (h:kstF [] l=some [k]) (hg:(l.map NdN.kind).countP (·==3)≤9):rightR l=true:=by
 obtain ⟨st,h1,h2,h3,h4⟩:=kst_inv l.length l rfl [k] h;have hkl:(ksN l).length=l.length:=by simp [ksN]
 have hl:st.length=1:=by
  have:=congrArg List.length h2;rw [List.length_map,posF_len] at this;exact this
 obtain ⟨z,rfl⟩:=List.length_eq_one_iff.1 hl;have hsum:=stackF_sum (ksN l) [] [z] h1;have hz:z=l.length:=by simpa [hkl] using hsum
 subst hz;exact (rightR_iff l).2 ⟨formed_of l (fun x hx=>(h3 x hx).2) h1,fun x hx=>(h3 x hx).1,h4,hg⟩
end Go.Proofs.YtbccojjcdcighaaGreatDoor

/- Texts put together: Ag. -/
import Derived.Test.YtbccojjcdcighaaGreatDoorQA
namespace Go.Proofs.YtbccojjcdcighaaGreatDoor
def pieceF (k:Int):Bool:=k==2||k==3||k==4
def kidF (o k:Int):Bool:=if o=3 then true else if o=4∨o=5 then pieceF k else if o=6 then k !=6 else false
def KidsOk (f:Nat→Int):Nat→List (List Nat)→Prop
 |_,[]=>True
 |i,c::cs=>(∀x∈c,kidF (f i) (f x)=true)∧KidsOk f (i+1) cs
theorem kidsOk_append (f : Nat → Int) : ∀ (as bs : List (List Nat)) (i : Nat), KidsOk f i (as ++ bs) ↔ KidsOk f i as ∧ KidsOk f (i + as.length) bs
  | [], bs, i => by simp [KidsOk]
  | c :: cs, bs, i => by
    rw [List.cons_append, KidsOk, KidsOk, kidsOk_append f cs bs (i + 1), List.length_cons, show i + 1 + cs.length = i + (cs.length + 1) by omega, and_assoc]
theorem kidsOk_congr (f g:Nat→Int):∀(cs:List (List Nat)) (i:Nat),(∀x,x<i+cs.length→f x=g x)→(∀c∈cs,∀x∈c,x<i+cs.length)→KidsOk f i cs→KidsOk g i cs
 |[],_,_,_,_=>trivial
 |c::cs,i,hf,hc,h=>by
  rw [List.length_cons] at hf hc;refine ⟨fun x hx=>?_,kidsOk_congr f g cs (i+1) (fun x hx=>hf x (by omega)) (fun d hd x hx=>by have:=hc d (List.mem_cons_of_mem _ hd) x hx;omega) h.2⟩;rw [←hf i (by omega),←hf x (hc c (List.mem_cons_self ..) x hx)];exact h.1 x hx
theorem posF_lt (i:Nat) (s:List Nat) (h0:0<i):∀x∈posF i s,x<i:=fun x hx=>by
 obtain ⟨j,hj,rfl⟩:=List.getElem_of_mem hx;rw [posF_get s i j hj]
 omega
theorem allKids_lt:∀(ks st:List Nat) (i:Nat),(st≠[]→0<i)→∀c∈allKids i st ks,∀x∈c,x<i+ks.length
 |[],_,_,_,c,hc=>by cases hc
 |k::ks,st,i,h0,c,hc=>by
  rw [allKids,List.mem_cons] at hc;intro x hx;rw [List.length_cons];rcases hc with rfl|hc
  ·have hx':=List.mem_of_mem_take hx
   cases st with
   |nil=>cases hx'
   |cons z st=>have:=posF_lt i (z::st) (h0 (by simp)) x hx';omega
  ·have:=allKids_lt ks (stepF st k) (i+1) (fun _=>by omega) c hc x hx
   omega
theorem allKids_len:∀(ks st:List Nat) (i:Nat),(allKids i st ks).length=ks.length
 |[],_,_=>rfl
 |k::ks,st,i=>by rw [allKids,List.length_cons,List.length_cons,allKids_len ks]
def kindF (l:List Int) (x:Nat):Int:=l.getD x 0
def RightKids (kinds:List Int) (ks:List Nat):Prop:=KidsOk (kindF kinds) 0 (allKids 0 [] ks)
theorem kindF_left (a b:List Int) (x:Nat) (h:x<a.length):kindF (a++b) x=kindF a x:=by
 unfold kindF;rw [List.getD_eq_getElem?_getD,List.getD_eq_getElem?_getD,List.getElem?_append_left h]
theorem kindF_right (a b:List Int) (x:Nat):kindF (a++b) (x+a.length)=kindF b x:=by
 unfold kindF;rw [List.getD_eq_getElem?_getD,List.getD_eq_getElem?_getD,List.getElem?_append_right (by omega),Nat.add_sub_cancel]
theorem rightKids_left (a b:List Int) (ks:List Nat) (hl:a.length=ks.length):KidsOk (kindF (a++b)) 0 (allKids 0 [] ks)↔RightKids a ks:=by
 have hx:∀x,x<0+(allKids 0 [] ks).length→kindF (a++b) x=kindF a x:=fun x hx=>kindF_left a b x (by rw [allKids_len] at hx;omega)
 have hc:∀c∈allKids 0 [] ks,∀x∈c,x<0+(allKids 0 [] ks).length:=by rw [allKids_len];exact allKids_lt ks [] 0 (fun h=>absurd rfl h)
 exact ⟨kidsOk_congr _ _ _ 0 hx hc,kidsOk_congr _ _ _ 0 (fun x h=>(hx x h).symm) hc⟩
end Go.Proofs.YtbccojjcdcighaaGreatDoor

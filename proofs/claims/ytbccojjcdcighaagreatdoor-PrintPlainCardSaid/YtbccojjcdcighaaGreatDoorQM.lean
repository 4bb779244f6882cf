/- Texts put together: Ow Hc. -/
import Derived.Test.YtbccojjcdcighaaGreatDoorQC
import Derived.Laws.AppendOwn
import Derived.Laws.OwnMore
import Derived.Deep.AppendLies
import Derived.Test.YtbccojjcdcighaaGreatDoorQB
import Derived.WalkLawsBesides
import Derived.Laws.StructEq
import Derived.BigQuiet
import Derived.Deep.QuietTactic
import Derived.Lib.Hide
namespace Go.Proofs.YtbccojjcdcighaaGreatDoor
open Go.RowKit BS
theorem owns_keep {W W':World} {base:Nat} {e:TypeId} {size:Nat} {v:Value} {n:Nat} {xs:List Value} (h:W.ownsRow base e size v n xs) (hb:∀g,v.ownBlock=some g→W'.heap[g]? =W.heap[g]?):W'.ownsRow base e size v n xs:=by
 refine ⟨h.1,?_⟩;rcases h.2 with hn|⟨g,cap,cur,rfl,h1,h2,h3⟩
 ·exact .inl hn
 ·exact .inr ⟨g,cap,cur,rfl,h1,(hb g rfl).trans h2,h3⟩
theorem owns_form {W:World} {base:Nat} {e:TypeId} {size:Nat} {v:Value} {n:Nat} {xs:List Value} (h:W.ownsRow base e size v n xs):∃a cap,v=.slice a n cap:=by
 rcases h.2 with ⟨rfl,rfl⟩|⟨g,cap,cur,rfl,_⟩
 ·exact ⟨_,_,rfl⟩
 ·exact ⟨_,_,rfl⟩
theorem owns_last {W:World} {base:Nat} {e:TypeId} {v x:Value} {n:Nat} {xs:List Value} (h:W.ownsRow base e 1 v (n+1) (xs++[x])):
 ∃g cap,v=.slice (some ⟨g,0,none⟩) (n+1) cap∧base≤g∧g<W.heap.size∧n+1≤cap∧W.cell? ⟨g,n,none⟩=some x∧W.ownsRow base e 1 (.slice (some ⟨g,0,none⟩) n cap) n xs:=by
 have hl:=h.1;rw [List.length_append,List.length_singleton,Nat.mul_one] at hl;rcases h.2 with ⟨_,h0⟩|⟨g,cap,cur,rfl,h1,h2,h3,h4,h5,h6⟩
 ·omega
 ·have hlt:g<W.heap.size:=(Array.getElem?_eq_some_iff.1 h2).1
  refine ⟨g,cap,rfl,h1,hlt,h3,?_,⟨by omega,.inr ⟨g,cap,cur,rfl,h1,h2,by omega,h4,h5,?_⟩⟩⟩
  ·have hc:W.cell? ⟨g,n,none⟩=cur[n]?:=by simp [World.cell?,h2]
   have:=congrArg (fun l:List Value=>l[n]?) h6;simp only [Nat.mul_one] at this;rw [List.getElem?_take,if_pos (show n<n+1 by omega),List.getElem?_append_right (show xs.length≤n by omega),show n - xs.length=0 by omega] at this;rw [hc,←Array.getElem?_toList,this]
   rfl
  ·have:=congrArg (List.take (n*1)) h6
   rw [List.take_take,show min (n*1) ((n+1)*1)=n*1 by omega,List.take_append_of_le_length (show n*1≤xs.length by omega),List.take_of_length_le (show xs.length≤n*1 by omega)] at this;exact this
theorem info8n:(Tryz.prog.info? 45).map (fun i=>(i.zero,i.size,i.bytes))=some (some (.agg #[.int .i64 0,.int .i64 0,.int .i64 0,.int .i64 0,.int .u64 0,.int .u64 0,.int .u64 0,.int .u64 0]),8,64):=by kernel_rfl
def ndCells (l:List NdN):List Value:=l.flatMap fun x=>(ndA x).toList
theorem ndCells_app (l m:List NdN):ndCells (l++m)=ndCells l++ndCells m:=by simp [ndCells]
theorem ndCells_len (l:List NdN):(ndCells l).length=l.length*8:=by
 induction l with
 |nil=>rfl
 |cons x l ih=>
  have e:ndCells (x::l)=(ndA x).toList++ndCells l:=by simp [ndCells]
  rw [e,List.length_append,ih,List.length_cons,show (ndA x).toList.length=8 from rfl]
  omega
theorem ndCells_get:∀(l:List NdN) (i j:Nat) (h:i<l.length) (_hj:j<8),(ndCells l)[i*8+j]? =(ndA l[i])[j]?
 |[],_,_,h,_=>absurd h (by simp)
 |x::l,i,j,h,hj=>by
  have e:ndCells (x::l)=(ndA x).toList++ndCells l:=by simp [ndCells]
  rw [e]
  cases i with
  |zero=>
   rw [List.getElem?_append_left (by rw [show (ndA x).toList.length=8 from rfl];omega),Nat.zero_mul,Nat.zero_add]
   simp
  |succ i=>
   rw [List.getElem?_append_right (by rw [show (ndA x).toList.length=8 from rfl];omega),show (ndA x).toList.length=8 from rfl,show (i+1)*8+j - 8=i*8+j by omega];exact ndCells_get l i j (by simpa using h) hj
theorem nodes_of_owns {l:List NdN} {v:Value} {base:Nat} {W:World} (h:W.ownsRow base 45 8 v l.length (ndCells l)) (hne:l≠[]):∃g cap,v=.slice (some ⟨g,0,none⟩) l.length cap∧base≤g∧NodesAt l (some ⟨g,0,none⟩) W:=by
 rcases h.2 with ⟨_,h0⟩|⟨g,cap,cur,rfl,hb,hg,_,_,_,_⟩
 ·exact absurd (List.eq_nil_of_length_eq_zero h0) hne
 ·refine ⟨g,cap,rfl,hb,fun _=>⟨g,0,rfl,(Array.getElem?_eq_some_iff.1 hg).1,fun i hi j hj=>?_⟩⟩
  rw [Nat.zero_add];have hjj:i*8+j<(ndCells l).length:=by rw [ndCells_len];omega
  exact (h.cellAt (i*8+j) (by omega)).trans (ndCells_get l i j hi hj)
end Go.Proofs.YtbccojjcdcighaaGreatDoor

namespace Go.Proofs.YtbccojjcdcighaaGreatDoor
open Go.RowKit BS
end Go.Proofs.YtbccojjcdcighaaGreatDoor

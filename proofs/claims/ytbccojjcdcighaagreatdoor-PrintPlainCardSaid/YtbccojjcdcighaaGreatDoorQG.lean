/- Texts put together: Nq. -/
import Derived.Test.YtbccojjcdcighaaGreatDoorQB
namespace Go.Proofs.YtbccojjcdcighaaGreatDoor
open Go.RowKit
def okB (n:Nat) (m:Int):Bool:=decide (readN (ofT (textN n m)) 0=(n,m,(textN n m).length,0,0)) && !(textN n m).isEmpty
theorem ok_row:∀n,n<100→okB n (-1)=true:=by decide +kernel
theorem ok_all:((List.range 100).all fun n=>(List.range 100).all fun m=>decide (m<n)||okB n m)=true:=by decide +kernel
theorem back_read (n m:Int) (h:rightN n m=true):textN n m≠[]∧∃N:Nat,n=N∧readN (ofT (textN n m)) 0=(N,m,(textN n m).length,0,0):=by
 have hc:0≤n∧n≤99∧(m= -1∨(n≤m∧m≤99)):=by
  unfold rightN at h;simp only [Bool.and_eq_true,Bool.or_eq_true,decide_eq_true_eq,beq_iff_eq] at h;exact ⟨h.1.1,h.1.2,h.2⟩
 obtain ⟨c1,c2,c3⟩:=hc;obtain ⟨N,rfl⟩:∃N:Nat,n=N:=⟨n.toNat,by omega⟩;have key:okB N m=true:=by
  rcases c3 with rfl|⟨c3,c4⟩
  ·exact ok_row N (by omega)
  ·obtain ⟨M,rfl⟩:∃M:Nat,m=M:=⟨m.toNat,by omega⟩
   have h1:=List.all_eq_true.1 (List.all_eq_true.1 ok_all N (List.mem_range.2 (by omega))) M (List.mem_range.2 (by omega));rw [decide_eq_false (by omega),Bool.false_or] at h1;exact h1
 unfold okB at key;rw [Bool.and_eq_true,decide_eq_true_eq] at key;refine ⟨fun hn=>?_,N,rfl,key.1⟩;rw [hn] at key;exact absurd key.2 (by decide)
end Go.Proofs.YtbccojjcdcighaaGreatDoor

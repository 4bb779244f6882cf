/- Texts put together: Ss. -/
import Derived.Test.YtbccojjcdcighaaGreatDoorQL
import Derived.Deep.RegionHeld3
import Derived.Deep.RegionWith
import Derived.Deep.DeepCutAuto
import Derived.Lib.Hide
namespace Go.Proofs.YtbccojjcdcighaaGreatDoor
open Go.RowKit BS
theorem box4' {w w':World} {a b c d:Value} {t:TypeId} (h:Below (w.heap.size+1) (w.alloc (.cells #[a,b,c,d] t)) w'):
 (w'.cell? ⟨w.heap.size,0,none⟩=some a∧w'.cell? ⟨w.heap.size,1,none⟩=some b∧w'.cell? ⟨w.heap.size,2,none⟩=some c∧w'.cell? ⟨w.heap.size,3,none⟩=some d)∧
 (w'.frozen? ⟨w.heap.size,0,none⟩=false∧w'.frozen? ⟨w.heap.size,1,none⟩=false∧w'.frozen? ⟨w.heap.size,2,none⟩=false∧w'.frozen? ⟨w.heap.size,3,none⟩=false):=
 box4 (by rw [World.size_alloc];exact h)
theorem next' {w:World} {o:Obj} {b c:World} (h:Below (w.heap.size+1) (w.alloc o) b) (k:Below b.heap.size b c):Below (w.heap.size+1) (w.alloc o) c:=next h k (by simp)
def Box (w:World) (s:BitVec 256) (w':World):Prop:=
 ((w'.cell? ⟨w.heap.size,0,none⟩=some (.int .u64 (wd s 0))∧w'.cell? ⟨w.heap.size,1,none⟩=some (.int .u64 (wd s 1))∧w'.cell? ⟨w.heap.size,2,none⟩=some (.int .u64 (wd s 2))∧w'.cell? ⟨w.heap.size,3,none⟩=some (.int .u64 (wd s 3))))∧Below w.heap.size w w'∧w.heap.size<w'.heap.size
theorem Box.stored {w w2:World} {a b c d:Value} {t:TypeId} (h:Below (w.heap.size+1) (w.alloc (.cells #[a,b,c,d] t)) w2) (s:BitVec 256):
 Box w s ((((w2.setCell ⟨w.heap.size,0,none⟩ (.int .u64 (wd s 0))).setCell ⟨w.heap.size,1,none⟩ (.int .u64 (wd s 1))).setCell ⟨w.heap.size,2,none⟩ (.int .u64 (wd s 2))).setCell ⟨w.heap.size,3,none⟩ (.int .u64 (wd s 3))):=by
 obtain ⟨⟨c0,c1,c2,c3⟩,f0,f1,f2,f3⟩:=box4' h;have hz:=h.size;rw [World.size_alloc] at hz;have hG:Below w.heap.size w w2:=upfrom (h.mono (by simp));refine ⟨⟨?_,?_,?_,?_⟩,by go_grown,by simp only [World.size_setCell];omega⟩<;>simp [go_sem,c0,c1,c2,c3]
theorem all1 {P:Nat→Prop} (h0:P 0):∀j,j<1→P j:=fun j hj=>by
 have:j=0:=by omega
 subst this;exact h0
theorem all2 {P:Nat→Prop} (h0:P 0) (h1:P 1):∀j,j<2→P j:=fun j hj=>by
 by_cases h:j=1
 ·subst h;exact h1
 ·exact all1 h0 j (by omega)
theorem all3 {P:Nat→Prop} (h0:P 0) (h1:P 1) (h2:P 2):∀j,j<3→P j:=fun j hj=>by
 by_cases h:j=2
 ·subst h;exact h2
 ·exact all2 h0 h1 j (by omega)
theorem all4 {P:Nat→Prop} (h0:P 0) (h1:P 1) (h2:P 2) (h3:P 3):∀j,j<4→P j:=fun j hj=>by
 by_cases h:j=3
 ·subst h;exact h3
 ·exact all3 h0 h1 h2 j (by omega)
set_option maxHeartbeats 1000000 in
theorem next_nonneg (s:BitVec 256) (n:Int) (w:World) (h1:0≤n) (h2:n≤9223372036854775807) (hT:Tab w) (hw:1<w.heap.size):
 Calls Tryz.prog 79 #[setV s,.int .i64 n] w fun e w'=>e=.returned (.int .i64 (nextOf s.getLsbD n.toNat))∧Below w.heap.size w w':=by
 have i0:=ix0;have i1:=ix1;have i2:=ix2;have i3:=ix3;go_enter Tryz.func79,Tryz.ntmps79
 go_wp2_with fail
 go_cut [] (fun wx=>Box w (s &&& ~~~mask n.toNat) wx)
 case first=>
  go_region_with (first
   |(go_at_call 102;refine (below_calls _ _ (by omega) (by omega)).mono ?_;rintro e w1 ⟨rfl,hb1⟩;have hB1:=next' ((Below.refl _ _).drew) hb1;obtain ⟨⟨c0,c1,c2,c3⟩,f0,f1,f2,f3⟩:=box4' hB1;clear hb1)
   |(go_at_call 101;refine (less_calls _ _ _).mono ?_;rintro e w2 ⟨rfl,hb2⟩;have hB2:=next' hB1 hb2;clear c0 c1 c2 c3 f0 f1 f2 f3;obtain ⟨⟨c0,c1,c2,c3⟩,f0,f1,f2,f3⟩:=box4' hB2;clear hb2))
  all_goals (go_wp2_with fail;go_meet)
  all_goals exact Box.stored hB2 _
 case rest=>
  obtain ⟨⟨c0,c1,c2,c3⟩,hb,hz⟩:=hcut;have HT:=Lib.hid (hT.keep hb hw);have HK:=Lib.hid (next_word s n.toNat);have HN:=Lib.hid (next_no s n.toNat);clear hT;generalize s &&& ~~~mask n.toNat=t at*
  by_cases h0:wd t 0=0
  ·have n0:((wd t 0:Int) !=0)=false:=by rw [h0];rfl
   by_cases h1:wd t 1=0
   ·have n1:((wd t 1:Int) !=0)=false:=by rw [h1];rfl
    by_cases h2:wd t 2=0
    ·have n2:((wd t 2:Int) !=0)=false:=by rw [h2];rfl
     by_cases h3:wd t 3=0
     ·have n3:((wd t 3:Int) !=0)=false:=by rw [h3];rfl
      have HF:=Lib.hid (HN.out (all4 (P:=fun j=>wd t j=0) h0 h1 h2 h3));clear HN HK h0 h1 h2 h3
      go_wp2_with fail
      refine wp_loop_rounds 5 ?_;rw [rounds_succ]
      go_wp2_with fail
      rw [rounds_succ]
      go_wp2_with fail
      rw [rounds_succ]
      go_wp2_with fail
      rw [rounds_succ]
      go_wp2_with fail
      rw [rounds_succ]
      go_wp2_with fail
      go_ret;refine ⟨ret_int ?_,hb⟩;rw [HF.out]
     ·have n3:((wd t 3:Int) !=0)=true:=by simpa using h3
      have hk:(Lib.ctz 64 (wd t 3):Int)≤63:=by have:=(ctz_wd t 3 h3).1;omega
      have HF:=Lib.hid (HK.out 3 (by decide) h3 (all3 (P:=fun j=>wd t j=0) h0 h1 h2));clear HN HK;have H:=Lib.hid h3;clear h0 h1 h2 h3
      go_wp2_with fail
      refine wp_loop_rounds 5 ?_;rw [rounds_succ]
      go_wp2_with fail
      rw [rounds_succ]
      go_wp2_with fail
      rw [rounds_succ]
      go_wp2_with fail
      rw [rounds_succ]
      go_wp2_with fail
      refine (tz_calls _ _ (wd_lt' _ _) H.out HT.out).mono ?_;rintro e w4 ⟨rfl,rfl⟩
      go_wp2
      go_ret;refine ⟨ret_int ?_,hb⟩;rw [←HF.out];omega
    ·have n2:((wd t 2:Int) !=0)=true:=by simpa using h2
     have hk:(Lib.ctz 64 (wd t 2):Int)≤63:=by have:=(ctz_wd t 2 h2).1;omega
     have HF:=Lib.hid (HK.out 2 (by decide) h2 (all2 (P:=fun j=>wd t j=0) h0 h1));clear HN HK;have H:=Lib.hid h2;clear h0 h1 h2
     go_wp2_with fail
     refine wp_loop_rounds 5 ?_;rw [rounds_succ]
     go_wp2_with fail
     rw [rounds_succ]
     go_wp2_with fail
     rw [rounds_succ]
     go_wp2_with fail
     refine (tz_calls _ _ (wd_lt' _ _) H.out HT.out).mono ?_;rintro e w4 ⟨rfl,rfl⟩
     go_wp2
     go_ret;refine ⟨ret_int ?_,hb⟩;rw [←HF.out];omega
   ·have n1:((wd t 1:Int) !=0)=true:=by simpa using h1
    have hk:(Lib.ctz 64 (wd t 1):Int)≤63:=by have:=(ctz_wd t 1 h1).1;omega
    have HF:=Lib.hid (HK.out 1 (by decide) h1 (all1 (P:=fun j=>wd t j=0) h0));clear HN HK;have H:=Lib.hid h1;clear h0 h1
    go_wp2_with fail
    refine wp_loop_rounds 5 ?_;rw [rounds_succ]
    go_wp2_with fail
    rw [rounds_succ]
    go_wp2_with fail
    refine (tz_calls _ _ (wd_lt' _ _) H.out HT.out).mono ?_;rintro e w4 ⟨rfl,rfl⟩
    go_wp2
    go_ret;refine ⟨ret_int ?_,hb⟩;rw [←HF.out];omega
  ·have n0:((wd t 0:Int) !=0)=true:=by simpa using h0
   have hk:(Lib.ctz 64 (wd t 0):Int)≤63:=by have:=(ctz_wd t 0 h0).1;omega
   have HF:=Lib.hid (HK.out 0 (by decide) h0 (fun j hj=>by omega));clear HN HK;have H:=Lib.hid h0;clear h0
   go_wp2_with fail
   refine wp_loop_rounds 5 ?_;rw [rounds_succ]
   go_wp2_with fail
   refine (tz_calls _ _ (wd_lt' _ _) H.out HT.out).mono ?_;rintro e w4 ⟨rfl,rfl⟩
   go_wp2
   go_ret;refine ⟨ret_int ?_,hb⟩;rw [←HF.out];omega
set_option maxHeartbeats 1000000 in
theorem next_neg (s:BitVec 256) (n:Int) (w:World) (h1:n<0) (hT:Tab w) (hw:1<w.heap.size):
 Calls Tryz.prog 79 #[setV s,.int .i64 n] w fun e w'=>e=.returned (.int .i64 (nextOf s.getLsbD 0))∧Below w.heap.size w w':=by
 have i0:=ix0;have i1:=ix1;have i2:=ix2;have i3:=ix3;go_enter Tryz.func79,Tryz.ntmps79
 go_wp2_with fail
 go_cut [] (fun wx=>Box w (s &&& ~~~mask 0) wx)
 case first=>
  go_region_with (first
   |(go_at_call 102;refine (below_calls _ _ (by omega) (by omega)).mono ?_;rintro e w1 ⟨rfl,hb1⟩;have hB1:=next' ((Below.refl _ _).drew) hb1;obtain ⟨⟨c0,c1,c2,c3⟩,f0,f1,f2,f3⟩:=box4' hB1;clear hb1)
   |(go_at_call 101;refine (less_calls _ _ _).mono ?_;rintro e w2 ⟨rfl,hb2⟩;have hB2:=next' hB1 hb2;clear c0 c1 c2 c3 f0 f1 f2 f3;obtain ⟨⟨c0,c1,c2,c3⟩,f0,f1,f2,f3⟩:=box4' hB2;clear hb2))
  all_goals (go_wp2_with fail;go_meet)
  all_goals exact Box.stored hB2 _
 case rest=>
  obtain ⟨⟨c0,c1,c2,c3⟩,hb,hz⟩:=hcut;have HT:=Lib.hid (hT.keep hb hw);have HK:=Lib.hid (next_word s 0);have HN:=Lib.hid (next_no s 0);clear hT;generalize s &&& ~~~mask 0=t at*
  by_cases h0:wd t 0=0
  ·have n0:((wd t 0:Int) !=0)=false:=by rw [h0];rfl
   by_cases h1:wd t 1=0
   ·have n1:((wd t 1:Int) !=0)=false:=by rw [h1];rfl
    by_cases h2:wd t 2=0
    ·have n2:((wd t 2:Int) !=0)=false:=by rw [h2];rfl
     by_cases h3:wd t 3=0
     ·have n3:((wd t 3:Int) !=0)=false:=by rw [h3];rfl
      have HF:=Lib.hid (HN.out (all4 (P:=fun j=>wd t j=0) h0 h1 h2 h3));clear HN HK h0 h1 h2 h3
      go_wp2_with fail
      refine wp_loop_rounds 5 ?_;rw [rounds_succ]
      go_wp2_with fail
      rw [rounds_succ]
      go_wp2_with fail
      rw [rounds_succ]
      go_wp2_with fail
      rw [rounds_succ]
      go_wp2_with fail
      rw [rounds_succ]
      go_wp2_with fail
      go_ret;refine ⟨ret_int ?_,hb⟩;rw [HF.out]
     ·have n3:((wd t 3:Int) !=0)=true:=by simpa using h3
      have hk:(Lib.ctz 64 (wd t 3):Int)≤63:=by have:=(ctz_wd t 3 h3).1;omega
      have HF:=Lib.hid (HK.out 3 (by decide) h3 (all3 (P:=fun j=>wd t j=0) h0 h1 h2));clear HN HK;have H:=Lib.hid h3;clear h0 h1 h2 h3
      go_wp2_with fail
      refine wp_loop_rounds 5 ?_;rw [rounds_succ]
      go_wp2_with fail
      rw [rounds_succ]
      go_wp2_with fail
      rw [rounds_succ]
      go_wp2_with fail
      rw [rounds_succ]
      go_wp2_with fail
      refine (tz_calls _ _ (wd_lt' _ _) H.out HT.out).mono ?_;rintro e w4 ⟨rfl,rfl⟩
      go_wp2
      go_ret;refine ⟨ret_int ?_,hb⟩;rw [←HF.out];omega
    ·have n2:((wd t 2:Int) !=0)=true:=by simpa using h2
     have hk:(Lib.ctz 64 (wd t 2):Int)≤63:=by have:=(ctz_wd t 2 h2).1;omega
     have HF:=Lib.hid (HK.out 2 (by decide) h2 (all2 (P:=fun j=>wd t j=0) h0 h1));clear HN HK;have H:=Lib.hid h2;clear h0 h1 h2
     go_wp2_with fail
     refine wp_loop_rounds 5 ?_;rw [rounds_succ]
     go_wp2_with fail
     rw [rounds_succ]
     go_wp2_with fail
     rw [rounds_succ]
     go_wp2_with fail
     refine (tz_calls _ _ (wd_lt' _ _) H.out HT.out).mono ?_;rintro e w4 ⟨rfl,rfl⟩
     go_wp2
     go_ret;refine ⟨ret_int ?_,hb⟩;rw [←HF.out];omega
   ·have n1:((wd t 1:Int) !=0)=true:=by simpa using h1
    have hk:(Lib.ctz 64 (wd t 1):Int)≤63:=by have:=(ctz_wd t 1 h1).1;omega
    have HF:=Lib.hid (HK.out 1 (by decide) h1 (all1 (P:=fun j=>wd t j=0) h0));clear HN HK;have H:=Lib.hid h1;clear h0 h1
    go_wp2_with fail
    refine wp_loop_rounds 5 ?_;rw [rounds_succ]
    go_wp2_with fail
    rw [rounds_succ]
    go_wp2_with fail
    refine (tz_calls _ _ (wd_lt' _ _) H.out HT.out).mono ?_;rintro e w4 ⟨rfl,rfl⟩
    go_wp2
    go_ret;refine ⟨ret_int ?_,hb⟩;rw [←HF.out];omega
  ·have n0:((wd t 0:Int) !=0)=true:=by simpa using h0
   have hk:(Lib.ctz 64 (wd t 0):Int)≤63:=by have:=(ctz_wd t 0 h0).1;omega
   have HF:=Lib.hid (HK.out 0 (by decide) h0 (fun j hj=>by omega));clear HN HK;have H:=Lib.hid h0;clear h0
   go_wp2_with fail
   refine wp_loop_rounds 5 ?_;rw [rounds_succ]
   go_wp2_with fail
   refine (tz_calls _ _ (wd_lt' _ _) H.out HT.out).mono ?_;rintro e w4 ⟨rfl,rfl⟩
   go_wp2
   go_ret;refine ⟨ret_int ?_,hb⟩;rw [←HF.out];omega
theorem next_calls (s:BitVec 256) (n:Int) (w:World) (h2:n≤9223372036854775807) (hT:Tab w) (hw:1<w.heap.size):
 Calls Tryz.prog 79 #[setV s,.int .i64 n] w fun e w'=>e=.returned (.int .i64 (nextOf s.getLsbD n.toNat))∧Below w.heap.size w w':=by
 by_cases hn:0≤n
 ·exact next_nonneg s n w hn h2 hT hw
 ·rw [show n.toNat=0 by omega];exact next_neg s n w (by omega) hT hw
end Go.Proofs.YtbccojjcdcighaaGreatDoor

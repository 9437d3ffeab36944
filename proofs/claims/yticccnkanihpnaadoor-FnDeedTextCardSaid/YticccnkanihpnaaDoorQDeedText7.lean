import Derived.Test.YticccnkanihpnaaDoorQDeedText1
import Derived.Test.YticccnkanihpnaaDoorQDeedText2
import Derived.Test.YticccnkanihpnaaDoorQDeedText4
import Derived.Test.YticccnkanihpnaaDoorQDeedText6
import Derived.RegionCalls
import Derived.Lib.SliceRun
namespace Go.Proofs.YticccnkanihpnaaDoor
set_option linter.unusedVariables false
open Go.RowKit
attribute [local go_sem ↓] Go.wp_at_zero Go.wp_at_succ
theorem deed_laid (w:World) (k a b:Int):∃ w',w.alloc (.cells #[.int .i64 k,.int .i64 a,.int .i64 b] 24)=w'∧w'.heap.size=w.heap.size+1∧Below w.heap.size w w'∧∀ W,Below w'.heap.size w' W->(W.cell? ⟨w.heap.size,0,none⟩=some (.int .i64 k)∧W.cell? ⟨w.heap.size,1,none⟩=some (.int .i64 a)∧W.cell? ⟨w.heap.size,2,none⟩=some (.int .i64 b)):=by
 refine ⟨_,rfl,by simp,(Below.refl _ w).alloc (Nat.le_refl _) _,fun W hb=>?_⟩
 have h:=(hb.block w.heap.size (by simp)).trans (heap_alloc_new w (.cells #[.int .i64 k,.int .i64 a,.int .i64 b] 24))
 exact ⟨cell_of_row _ _ 0 _ _ _ h,cell_of_row _ _ 1 _ _ _ h,cell_of_row _ _ 2 _ _ _ h⟩
end Go.Proofs.YticccnkanihpnaaDoor
namespace Go.Proofs.YticccnkanihpnaaDoor
set_option linter.unusedVariables false
open Go.RowKit
attribute [local go_sem ↓] Go.wp_at_zero Go.wp_at_succ
set_option maxRecDepth 8000 in
set_option maxHeartbeats 4000000 in
theorem w_FnDeedText (A:Option Addr) (n c:Nat) (w:World) (h:Bs w w.heap.size A n) (hc:n<=c) (hV:LV w w.heap.size) :
  Calls Tryd.prog 3 #[.slice A n c] w fun e w'=>e=.returned (.bool true)∧Below w.heap.size w w':=by
 by_cases hn:n<=1048576
 ·go_enter Tryd.func3,Tryd.ntmps3
  go_wp2_with fail
  refine (c_DrawDeedText A n c _ h hn hc).mono ?_
  rintro e w1 ⟨k,a,b,rfl,hk,ha,hb,hb1⟩
  have hs1:=hb1.size
  obtain ⟨w2,hw2,hz2,hb2,HC2⟩:=deed_laid w1 k a b
  have hx2:=hb1.trans (hb2.mono hs1)
  have HC2:=Lib.hid HC2
  obtain ⟨q0,q1,q2⟩:=HC2.out _ (Below.refl _ w2)
  have HT:=Lib.hid (fun W=>c_iDeedText k a b W)
  have HS:=Lib.hid (fun W=>c_sDeedText k a b W)
  have hlen:=deedL_len ⟨k,a,b⟩
  have hread:=Lib.hid (deed_read ⟨k,a,b⟩)
  generalize deedL ⟨k,a,b⟩=l at HT HS hlen hread
  have HR:=Lib.hid (fun W hW=>c_iReadDeed l (by omega) W hW)
  have HVV:=Lib.hid hV
  clear h hb1 hb2
  go_wp2_with fail
  clear hw2
  refine (HT.out _).mono ?_
  rintro e w3 ⟨rfl,hb3⟩
  clear q0 q1 q2
  obtain ⟨q0,q1,q2⟩:=HC2.out _ hb3
  have hne:((bs l).toList != (bs l).toList)=false:=by simp
  have hne2:((bs l).toList == (bs l).toList)=true:=by simp
  go_wp2_with fail
  refine (HS.out _).mono ?_
  rintro e w4 ⟨rfl,hb4⟩
  have hx4:=hb3.trans (hb4.mono hb3.size)
  clear q0 q1 q2
  have hx4':=hx2.trans (hx4.mono hx2.size)
  by_cases hl:l=[]
  ·have h0:(bs l).toList.isEmpty=true:=by rw [bs_list,hl];rfl
   clear hl
   go_wp2_with fail
   refine (c_alive _).mono ?_
   rintro e w5 ⟨rfl,hb5⟩
   go_wp2_with fail
   go_ret
   exact ⟨rfl,hx4'.trans (hb5.mono hx4'.size)⟩
  ·have h0:(bs l).toList.isEmpty=false:=by rw [bs_list];cases l with | nil=>exact (hl rfl).elim | cons x y=>rfl
   have hrd:readV (readD l)=.tuple #[.agg #[.int .i64 k,.int .i64 a,.int .i64 b],.bool true]:=by rw [hread.out hl];rfl
   have HR:=Lib.hid (fun W (hW:LV W W.heap.size)=>show Calls Tryd.prog 14 #[.string (bs l)] W fun e w'=>e=.returned (.tuple #[.agg #[.int .i64 k,.int .i64 a,.int .i64 b],.bool true])∧Below W.heap.size W w' from by
    have K:=HR.out W hW
    rw [hrd] at K
    exact K)
   clear hl hrd
   have HR4:=Lib.hid (HR.out _ (HVV.out.at hx4'))
   go_wp2_with fail
   refine HR4.out.mono ?_
   rintro e w5 ⟨rfl,hb5⟩
   have hx5:=hx4.trans (hb5.mono hx4.size)
   have hs5:=hx5.size
   obtain ⟨w6,hw6,hz6,hb6,HC6⟩:=deed_laid w5 k a b
   obtain ⟨q0,q1,q2⟩:=HC2.out _ (hx5.trans (hb6.mono hx5.size))
   obtain ⟨q3,q4,q5⟩:=HC6 _ (Below.refl _ w6)
   have e1:(k == k)=true:=by simp
   have e2:(a == a)=true:=by simp
   have e3:(b == b)=true:=by simp
   go_wp2_with fail
   go_ret
   exact ⟨rfl,hx2.trans ((hx5.trans (hb6.mono hx5.size)).mono hx2.size)⟩
 ·have hn':(1048576:Int) < (n:Int):=by omega
  go_enter Tryd.func3,Tryd.ntmps3
  go_wp2_with fail
  go_ret
  exact ⟨rfl,Below.refl _ _⟩
end Go.Proofs.YticccnkanihpnaaDoor

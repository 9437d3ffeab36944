import Derived.Test.YthpccmkagikhjaaGreatDoorQExactDeskLine1
import Derived.Test.YthpccmkagikhjaaGreatDoorQExactDeskLine5
import Derived.Test.YthpccmkagikhjaaGreatDoorQExactDeskLine7
import Derived.Test.YthpccmkagikhjaaGreatDoorQExactDeskLine10
import Derived.Test.YthpccmkagikhjaaGreatDoorQExactDeskLine11
import Derived.RangeFuncNested
import Derived.RangeFuncBound
import Derived.RangeFuncCalls
import Derived.RangeFuncLeaves
import Derived.RangeFuncBox
import Derived.Shelf.Abstract
import Derived.Shelf.RegionOpen
import Derived.OwnWalkIn
import Derived.TacticsInMore
import Derived.LoopNIn
import Derived.LoopIn
namespace Go.Proofs.YthpccmkagikhjaaGreatDoor
set_option linter.unusedVariables false
open Go.RowKit
set_option maxRecDepth 100000
set_option maxHeartbeats 8000000
section
attribute [local go_sem ↓] Go.wp_at_zero Go.wp_at_succ
theorem c_withBehind (D:KV) (vn vp:Value) (a b:Int) (w:World) (hK:Ks w w.heap.size vn vp D) (hs:SmallK D) :
  Calls Tryz.prog 144 #[.agg #[vn,vp],.agg #[.int .i64 a,.int .i64 b]] w (MadeP D.now ⟨0,a,b⟩ w):=by
 obtain ⟨⟨An,cn,rfl,hcn,hN⟩,Ap,cp,rfl,-,-⟩:=hK
 have hs1:=hs.1
 have HM:=Lib.hid (made_0 D.now a b)
 have HC:=Lib.hid (fun (W:World) (hb:Below w.heap.size w W)=>c_cloneC D.now An cn W ((hN.below hb).more hb.size) (by omega))
 have hl:(D.now++[(a,b)]).length=D.now.length+1:=by simp
 have HKO:=Lib.hid (fun (g c2:Nat) (W:World) (hI:Cs W W.heap.size (some ⟨g,0,none⟩) (D.now++[(a,b)]))=>show Calls Tryz.prog 61 #[.slice (some ⟨g,0,none⟩) (D.now.length+1) c2] W fun e w'=>e=.returned (.bool (cOk (D.now++[(a,b)])))∧Below W.heap.size W w' from by
  have K:=c_iCustomersOk (D.now++[(a,b)]) (some ⟨g,0,none⟩) c2 W hI (by omega)
  rwa [hl] at K)
 obtain ⟨w0,hw0⟩:∃ w0,(w.alloc (.cells #[.slice An D.now.length cn,.slice Ap D.past.length cp] 31)).alloc (.cells #[.int .i64 a,.int .i64 b] 100)=w0:=⟨_,rfl⟩
 have hz0:w0.heap.size=w.heap.size+2:=by rw [<- hw0];simp
 have hb0:Below w.heap.size w w0:=by rw [<- hw0];exact ((Below.refl _ w).alloc (Nat.le_refl _) _).alloc (by simp) _
 have bD:w0.heap[w.heap.size]?=some (.cells #[.slice An D.now.length cn,.slice Ap D.past.length cp] 31 (0,0)):=by rw [<- hw0];exact (Below.heap_alloc _ _ _ (by simp)).trans (heap_alloc_new _ _)
 have bC:w0.heap[w.heap.size+1]?=some (.cells #[.int .i64 a,.int .i64 b] 100 (0,0)):=by rw [<- hw0];exact heap_newK _ _ _
 have HS:=Lib.hid (fun (W:World) (hb:Below w0.heap.size w0 W)=>show W.cell? ⟨w.heap.size,0,none⟩=some (.slice An D.now.length cn)∧W.cell? ⟨w.heap.size+1,0,none⟩=some (.int .i64 a)∧W.cell? ⟨w.heap.size+1,1,none⟩=some (.int .i64 b) from by
  have b1:=(hb.block w.heap.size (by omega)).trans bD
  have b2:=(hb.block (w.heap.size+1) (by omega)).trans bC
  exact ⟨cell_of_row _ w.heap.size 0 _ _ _ b1,cell_of_row _ (w.heap.size+1) 0 _ _ _ b2,cell_of_row _ (w.heap.size+1) 1 _ _ _ b2⟩)
 have hd0:Below w0.heap.size w0 w0.drew:=(Below.refl _ w0).drew
 have hd1:=hd0.alloc (Nat.le_refl _) (.cells #[.int .i64 a,.int .i64 b] 100)
 obtain ⟨c0,c1,c2⟩:=HS.out _ (Below.refl _ w0)
 have hb0':=Lib.hid (fun (W:World) (h:Below w0.heap.size w0 W)=>hb0.trans (h.mono (show w.heap.size<=w0.heap.size by omega)))
 have hle0:w.heap.size+2<=w0.heap.size:=by omega
 clear hN bD bC hz0
 go_enter Tryz.func144,Tryz.ntmps144
 go_wp2_with fail
 clear hw0
 go_region_held3 (fun W=>W.cell? ⟨w.heap.size,0,none⟩=some (.slice An D.now.length cn)∧W.cell? ⟨w.heap.size+1,0,none⟩=some (.int .i64 a)∧W.cell? ⟨w.heap.size+1,1,none⟩=some (.int .i64 b))
  (first
    | exact HS.out _ hx7
    | exact HS.out _ (hx6.alloc hx6.size _)
    | exact HS.out _ hx6
    | exact HS.out _ hd1
    | go_keep)
  (first
    | (go_at_call 104;refine (HC.out w0.drew (hb0'.out _ hd0)).mono ?_;rintro e w6 ⟨v6,rfl,o6,hb6⟩;obtain ⟨G6,c6,rfl,-,-⟩:=o6.formG;have hx6:Below w0.heap.size w0 w6:=hd0.trans hb6;have o6:CO w6 w0.heap.size (.slice G6 D.now.length c6) D.now:=o6)
    | (go_at_call 104;refine (HC.out _ (hb0'.out _ hd1)).mono ?_;rintro e w6 ⟨v6,rfl,o6,hb6⟩;obtain ⟨G6,c6,rfl,-,-⟩:=o6.formG;have bX:w6.heap[w0.heap.size]?=some (.cells #[.int .i64 a,.int .i64 b] 100 (0,0)):=(hb6.block w0.heap.size (by simp)).trans (heap_alloc_new w0.drew _);have hx6:Below w0.heap.size w0 w6:=hd1.trans (hb6.mono (by simp));have o6:CO w6 w0.heap.size (.slice G6 D.now.length c6) D.now:=o6.mono (by simp))
    | (refine step_C (by rfl) (.tmp 9) (.tmp 11) (by rfl) w0.heap.size (.slice G6 D.now.length c6) D.now a b w6.heap.size ?_ ?_ ?_ ?_ ?_ ?_ ?_;rfl;exact (o6.alloc _);rfl;exact (heap_alloc_new _ _);omega;(have:=hx6.size;simp;omega);intro g7 c7 w7 o7 hgr7 hb7;have hx7:Below w0.heap.size w0 w7:=(hx6.alloc hx6.size _).trans hb7)
    | (refine step_C (by rfl) (.tmp 9) (.tmp 11) (by rfl) w0.heap.size (.slice G6 D.now.length c6) D.now a b w0.heap.size ?_ ?_ ?_ ?_ ?_ ?_ ?_;rfl;exact o6;rfl;exact bX;omega;exact hx6.size;intro g7 c7 w7 o7 hgr7 hb7;have hx7:Below w0.heap.size w0 w7:=hx6.trans hb7)
    | fail)
 all_goals
  have hI:=o7.isOf.2
  have HK:=Lib.hid (HKO.out g7 c7 w7 hI)
  have HO7:=Lib.hid (o7.mono (show w.heap.size<=w0.heap.size by omega))
  have HB:=Lib.hid (hb0'.out _ hx7)
  clear hI o7 o6 hb6 hb7 hx7 hx6 hd0 hd1
  go_wp2_with fail
  refine HK.out.mono ?_
  rintro e w8 ⟨rfl,hb8⟩
  go_wp2_with fail
  go_ret2
  exact ⟨_,by rw [HM.out];rfl,fun _=>by rw [HM.out];exact HO7.out.below hb8 (Nat.le_refl _),HB.out.trans (hb8.mono HB.out.size)⟩
theorem c_withoutLast (D:KV) (vn vp:Value) (w:World) (hK:Ks w w.heap.size vn vp D) (hs:SmallK D) :
  Calls Tryz.prog 145 #[.agg #[vn,vp]] w (MadeP D.now ⟨1,0,0⟩ w):=by
 obtain ⟨⟨An,cn,rfl,hcn,hN⟩,Ap,cp,rfl,-,-⟩:=hK
 have hs1:=hs.1
 obtain ⟨w0,hw0,hz0,hb0,-,hS⟩:=one_box w (.slice An D.now.length cn) (.slice Ap D.past.length cp)
 obtain ⟨c0,c1⟩:=hS _ (Below.refl _ w0)
 clear hS hz0
 by_cases hp:0 < D.now.length
 ·have HM:=Lib.hid (made_go hp)
  have p1:((D.now.length:Int) == 0)=false:=beq_eq_false_iff_ne.2 (by omega)
  have ht:(D.now.take (D.now.length - 1)).length=D.now.length - 1:=by simp
  have HC:=Lib.hid (by have K:=c_cloneC (D.now.take (D.now.length - 1)) An cn w0 ((Cs_take (hN.below hb0) _).more hb0.size) (by rw [ht];omega);rw [ht] at K;exact K)
  have p2:(0:Int)<=(D.now.length:Int) - 1:=by omega
  have p3:((D.now.length:Int) - 1).toNat=D.now.length - 1:=by omega
  have p4:D.now.length - 1<=cn:=by omega
  go_enter Tryz.func145,Tryz.ntmps145
  go_wp2_with fail
  refine HC.out.mono ?_
  rintro e w1 ⟨v1,rfl,o1,hb1⟩
  go_wp2_with fail
  go_ret2
  exact ⟨_,by rw [HM.out];rfl,fun _=>by rw [HM.out];exact o1.mono hb0.size,hb0.trans (hb1.mono hb0.size)⟩
 ·have p1:D.now.length=0:=by omega
  have HM:=Lib.hid (show madeV D.now ⟨1,0,0⟩=(D.now,false) from made_no (by omega) (by omega) (by omega) (by omega))
  have p2:((D.now.length:Int) == 0)=true:=beq_iff_eq.2 (by omega)
  clear p1
  go_enter Tryz.func145,Tryz.ntmps145
  go_wp2_with fail
  go_ret2
  exact ⟨.slice none 0 0,by rw [HM.out];rfl,(fun h=>by rw [HM.out] at h;cases h),hb0⟩
theorem c_withLater (D:KV) (vn vp:Value) (a:Int) (w:World) (hK:Ks w w.heap.size vn vp D) (hs:SmallK D) :
  Calls Tryz.prog 147 #[.agg #[vn,vp],.int .i64 a] w (MadeP D.now ⟨3,a,0⟩ w):=by
 obtain ⟨⟨An,cn,rfl,hcn,hN⟩,Ap,cp,rfl,-,-⟩:=hK
 have hs1:=hs.1
 obtain ⟨w0,hw0,hz0,hb0,-,hS⟩:=one_box w (.slice An D.now.length cn) (.slice Ap D.past.length cp)
 obtain ⟨c0,c1⟩:=hS _ (Below.refl _ w0)
 clear hS hz0
 have HC:=Lib.hid (c_iLaterBy D.now An cn a w0 ((hN.below hb0).more hb0.size) (by omega))
 by_cases hp:0 < D.now.length
 ·have p1:((D.now.length:Int) == 0)=false:=beq_eq_false_iff_ne.2 (by omega)
  by_cases ha:a=0
  ·subst ha
   have HM:=Lib.hid (show madeV D.now ⟨3,0,0⟩=(D.now,false) from made_no (by omega) (by omega) (by omega) (by omega))
   go_enter Tryz.func147,Tryz.ntmps147
   go_wp2_with fail
   go_ret2
   exact ⟨.slice none 0 0,by rw [HM.out];rfl,(fun h=>by rw [HM.out] at h;cases h),hb0⟩
  ·have p2:(a == 0)=false:=beq_eq_false_iff_ne.2 ha
   have HM:=Lib.hid (show (madeV D.now ⟨3,a,0⟩).2=laterOk D.now a∧(laterOk D.now a=true->(madeV D.now ⟨3,a,0⟩).1=laterR D.now a) by
    by_cases h0:0 < a
    ·rw [made_3 h0 hp];exact ⟨rfl,fun _=>rfl⟩
    ·have e:laterOk D.now a=false:=by
      cases e:laterOk D.now a with
      | false=>rfl
      | true=>have:=(laterOk_parts e).2.1;omega
     rw [made_no (by omega) (by omega) (by omega) (by omega),e]
     exact ⟨rfl,fun h=>by cases h⟩)
   go_enter Tryz.func147,Tryz.ntmps147
   go_wp2_with fail
   refine HC.out.mono ?_
   rintro e w1 ⟨v1,rfl,o1,hb1⟩
   rw [laterV]
   go_wp2_with fail
   go_ret2
   exact ⟨_,by rw [HM.out.1];rfl,fun h=>by rw [HM.out.2 (by rw [<- HM.out.1];exact h)];exact o1.mono hb0.size,hb0.trans (hb1.mono hb0.size)⟩
 ·have p1:D.now.length=0:=by omega
  have HM:=Lib.hid (show madeV D.now ⟨3,a,0⟩=(D.now,false) from made_no (by omega) (by omega) (by omega) (by omega))
  have p2:((D.now.length:Int) == 0)=true:=beq_iff_eq.2 (by omega)
  clear p1
  go_enter Tryz.func147,Tryz.ntmps147
  go_wp2_with fail
  go_ret2
  exact ⟨.slice none 0 0,by rw [HM.out];rfl,(fun h=>by rw [HM.out] at h;cases h),hb0⟩
theorem c_changedBy (D:KV) (vn vp:Value) (k a b:Int) (w:World) (hK:Ks w w.heap.size vn vp D) (hs:SmallK D) (hf:formOk k a b=true) (h4:k≠4) :
  Calls Tryz.prog 110 #[.agg #[vn,vp],.agg #[.int .i64 k,.int .i64 a,.int .i64 b]] w (MadeP D.now ⟨k,a,b⟩ w):=by
 have hcs:k=0∨(k=1∧a=0∧b=0)∨(k=2∧b=0)∨(k=3∧b=0):=by
  simp only [formOk,Bool.or_eq_true,Bool.and_eq_true,decide_eq_true_eq] at hf
  omega
 clear hf h4
 have hbx:∀ x:Int,Below w.heap.size w ((w.alloc (.cells #[vn,vp] 31)).alloc (.cells #[.int .i64 x,.int .i64 a,.int .i64 b] 39)):=fun x=>((Below.refl _ w).alloc (Nat.le_refl _) _).alloc (by simp) _
 rcases hcs with rfl | ⟨rfl,rfl,rfl⟩ | ⟨rfl,rfl⟩ | ⟨rfl,rfl⟩
 ·have HC:=Lib.hid (fun (W:World) (hb:Below w.heap.size w W)=>c_withBehind D vn vp a b W ((hK.below hb).more hb.size) hs)
  clear hK hs
  go_enter Tryz.func110,Tryz.ntmps110
  go_wp2_with fail
  refine (HC.out _ (hbx _)).mono ?_
  rintro e w1 ⟨v1,rfl,o1,hb1⟩
  go_wp2_with fail
  go_ret2
  have hy:=hbx 0
  exact ⟨_,rfl,fun h=>(o1 h).mono hy.size,hy.trans (hb1.mono hy.size)⟩
 ·have HC:=Lib.hid (fun (W:World) (hb:Below w.heap.size w W)=>c_withoutLast D vn vp W ((hK.below hb).more hb.size) hs)
  clear hK hs
  go_enter Tryz.func110,Tryz.ntmps110
  go_wp2_with fail
  refine (HC.out _ (hbx _)).mono ?_
  rintro e w1 ⟨v1,rfl,o1,hb1⟩
  go_wp2_with fail
  go_ret2
  have hy:=hbx 1
  exact ⟨_,rfl,fun h=>(o1 h).mono hy.size,hy.trans (hb1.mono hy.size)⟩
 ·obtain ⟨⟨An,cn,rfl,hcn,hN⟩,-⟩:=hK
  have hs1:=hs.1
  have HC:=Lib.hid (fun (W:World) (hb:Below w.heap.size w W)=>c_iNeedingMore D.now An cn a W ((hN.below hb).more hb.size) (by omega))
  have HM:=Lib.hid (made_2 D.now a)
  clear hN hs
  go_enter Tryz.func110,Tryz.ntmps110
  go_wp2_with fail
  refine (HC.out _ (hbx _)).mono ?_
  rintro e w1 ⟨v1,rfl,o1,hb1⟩
  rw [laterV]
  go_wp2_with fail
  go_ret2
  have hy:=hbx 2
  exact ⟨_,by rw [HM.out];rfl,fun _=>by rw [HM.out];exact o1.mono hy.size,hy.trans (hb1.mono hy.size)⟩
 ·have HC:=Lib.hid (fun (W:World) (hb:Below w.heap.size w W)=>c_withLater D vn vp a W ((hK.below hb).more hb.size) hs)
  clear hK hs
  go_enter Tryz.func110,Tryz.ntmps110
  go_wp2_with fail
  refine (HC.out _ (hbx _)).mono ?_
  rintro e w1 ⟨v1,rfl,o1,hb1⟩
  go_wp2_with fail
  go_ret2
  have hy:=hbx 3
  exact ⟨_,rfl,fun h=>(o1 h).mono hy.size,hy.trans (hb1.mono hy.size)⟩
theorem run_maxA (a b:Int) (t:Array TypeId) (ty:TypeId) (w:World):(Builtin.max_ t ty #[.int .i64 a,.int .i64 b]).run Tryz.prog w=.ok (.int .i64 (max a b)) w:=by
 by_cases h:b > a
 ·rw [show max a b=b by omega];simp [Builtin.max_,Builtin.max2,h]
 ·rw [show max a b=a by omega];simp [Builtin.max_,Builtin.max2,h]
theorem css_all {w:World} {base g c:Nat} {hs:List Value} {Ls:List (List (Int×Int))} {n:Nat} (h:HdO w base (.slice (some ⟨g,0,none⟩) n c) hs) (hr:RdH w w.heap.size hs Ls):n=Ls.length∧Ls.length<=c∧Css w w.heap.size (some ⟨g,0,none⟩) Ls:=by
 obtain ⟨A,c',e,h1,h2,-⟩:=h.css hr
 injection e with e1 e2 e3
 subst e1 e2 e3
 exact ⟨rfl,h1,h2⟩
attribute [local go_sem ↓] run_maxA
theorem c_with (D:KV) (vn vp nv:Value) (w:World) (hK:Ks w w.heap.size vn vp D) (hs:SmallK D) (h8:D.past.length<=8) (hnv:∃ A n c,nv=.slice A n c) :
  Calls Tryz.prog 111 #[.agg #[vn,vp],nv] w fun e w'=>∃ up us,e=.returned (.agg #[nv,up])∧COO w' (w.heap.size+2) up (pushP D.past D.now) us∧Below w.heap.size w w':=by
 obtain ⟨⟨An,cn,rfl,hcn,hN⟩,Ap,cp,rfl,hcp,hP⟩:=hK
 obtain ⟨hs1,hs2,hs3⟩:=hs
 obtain ⟨A,nn,nc,rfl⟩:=hnv
 have hl:(D.past++[D.now]).length=D.past.length+1:=by simp
 have hl3:∀ k,k < (D.past++[D.now]).length->(LL (D.past++[D.now]) k).length<=100000000:=fun k hk=>by
  rw [hl] at hk
  rw [LL_app _ hk]
  split
  ·omega
  ·have:=hs3 k (by omega);omega
 obtain ⟨w0,hw0,hz0,hb0,bR,hS⟩:=two_boxes w (.slice An D.now.length cn) (.slice Ap D.past.length cp)
 have hle0:w.heap.size+2<=w0.heap.size:=by omega
 have HC:=Lib.hid (fun (W:World) (hb:Below w.heap.size w W)=>c_cloneCC D.past Ap cp w.heap.size W hb.size (hP.below hb) (by omega))
 have HS:=Lib.hid (fun (W:World) (hb:Below w0.heap.size w0 W)=>hS W (hb.mono (by omega)))
 have HB0:=Lib.hid (fun (W:World) (h:Below w0.heap.size w0 W)=>hb0.trans (h.mono (show w.heap.size<=w0.heap.size by omega)))
 have HN:=Lib.hid hN
 have HP2:=Lib.hid (fun (g c2:Nat) (W:World) (hI:Css W W.heap.size (some ⟨g,0,none⟩) (D.past++[D.now]))=>show Calls Tryz.prog 105 #[.slice (some ⟨g,0,none⟩) (D.past.length+1) c2] W fun e w'=>∃ v vs,e=.returned v∧COO w' W.heap.size v (D.past++[D.now]) vs∧Below W.heap.size W w' from by
  have K:=c_copiesOf (D.past++[D.now]) (some ⟨g,0,none⟩) c2 W hI (by omega) hl3
  rwa [hl] at K)
 have HP3:=Lib.hid (fun (g c2:Nat) (W:World) (hI:Css W W.heap.size (some ⟨g,0,none⟩) (D.past++[D.now]))=>show Calls Tryz.prog 105 #[.slice (some ⟨g,1,none⟩) D.past.length (c2 - 1)] W fun e w'=>∃ v vs,e=.returned v∧COO w' W.heap.size v ((D.past++[D.now]).drop 1) vs∧Below W.heap.size W w' from by
  have hd:((D.past++[D.now]).drop 1).length=D.past.length:=by rw [List.length_drop,hl];omega
  have K:=c_copiesOf ((D.past++[D.now]).drop 1) (some ⟨g,0+1,none⟩) (c2 - 1) W (hI.drop 1) (by omega) (fun k hk=>by
   have e:LL ((D.past++[D.now]).drop 1) k=LL (D.past++[D.now]) (1+k):=by simp [LL,List.getD_eq_getElem?_getD,Nat.add_comm]
   rw [e];exact hl3 (1+k) (by rw [hd] at hk;omega))
  rwa [hd] at K)
 have hd0:Below w0.heap.size w0 w0.drew:=(Below.refl _ w0).drew
 have hd1:=hd0.alloc (Nat.le_refl _) (.cells #[.slice An D.now.length cn] 28)
 obtain ⟨c0,c1⟩:=HS.out _ (Below.refl _ w0)
 clear hN hP hs3 hl3 hS hz0
 go_enter Tryz.func111,Tryz.ntmps111
 go_wp2_with fail
 clear hw0
 go_region_held3 (fun W=>W.cell? ⟨w.heap.size,0,none⟩=some (.slice An D.now.length cn)∧W.cell? ⟨w.heap.size,1,none⟩=some (.slice Ap D.past.length cp))
  (first
    | exact HS.out _ hx7
    | exact HS.out _ (hx6.alloc hx6.size _)
    | exact HS.out _ hx6
    | exact HS.out _ hd1
    | go_keep)
  (first
    | (go_at_call 148;refine (HC.out w0.drew (HB0.out _ hd0)).mono ?_;rintro e w6 ⟨v6,hs6,rfl,o6,hr6,hb6⟩;have hq6:=hr6.1;have HR6:RdH w6 w.heap.size hs6 D.past:=hr6.below (hb6.mono (by show w.heap.size<=w0.heap.size;omega));obtain ⟨G6,c6,rfl,-,-,-⟩:=o6.form;rw [hq6] at o6 ⊢;have hx6:Below w0.heap.size w0 w6:=hd0.trans hb6;have o6:HdO w6 w0.heap.size (.slice G6 D.past.length c6) hs6:=o6)
    | (go_at_call 148;refine (HC.out _ (HB0.out _ hd1)).mono ?_;rintro e w6 ⟨v6,hs6,rfl,o6,hr6,hb6⟩;have hq6:=hr6.1;have HR6:RdH w6 w.heap.size hs6 D.past:=hr6.below (hb6.mono (by simp;omega));have bX:w6.heap[w0.heap.size]?=some (.cells #[.slice An D.now.length cn] 28 (0,0)):=(hb6.block w0.heap.size (by simp)).trans (heap_alloc_new w0.drew _);obtain ⟨G6,c6,rfl,-,-,-⟩:=o6.form;rw [hq6] at o6 ⊢;have hx6:Below w0.heap.size w0 w6:=hd1.trans (hb6.mono (by simp));have o6:HdO w6 w0.heap.size (.slice G6 D.past.length c6) hs6:=o6.mono (by simp))
    | (refine step_H1 (by rfl) (.tmp 9) (.tmp 12) (by rfl) w0.heap.size (.slice G6 D.past.length c6) hs6 (.slice An D.now.length cn) w6.heap.size (D.past.length+1) ?_ ?_ ?_ ?_ ?_ ?_ ?_ ?_ ?_;rfl;exact (o6.alloc _);rfl;rfl;exact (heap_alloc_new _ _);omega;omega;(have:=hx6.size;simp;omega);intro g7 c7 w7 o7 hgr7 hb7;have h67:Below w0.heap.size w6 w7:=((Below.refl _ w6).alloc hx6.size _).trans hb7;have hx7:Below w0.heap.size w0 w7:=(hx6.alloc hx6.size _).trans hb7)
    | (refine step_H1 (by rfl) (.tmp 9) (.tmp 12) (by rfl) w0.heap.size (.slice G6 D.past.length c6) hs6 (.slice An D.now.length cn) w0.heap.size (D.past.length+1) ?_ ?_ ?_ ?_ ?_ ?_ ?_ ?_ ?_;rfl;exact o6;rfl;rfl;exact bX;omega;omega;exact hx6.size;intro g7 c7 w7 o7 hgr7 hb7;have h67:Below w0.heap.size w6 w7:=hb7;have hx7:Below w0.heap.size w0 w7:=hx6.trans hb7)
    | fail)
 all_goals
  have hw7:=HB0.out _ hx7
  obtain ⟨-,hc7,hI⟩:=css_all o7 (((HR6.below (h67.mono (by omega))).snoc hcn (HN.out.below hw7)).more hw7.size)
  rw [hl] at hc7
  have HI2:=Lib.hid (HP2.out g7 c7 w7 hI)
  have HI3:=Lib.hid (HP3.out g7 c7 w7 hI)
  have b7:=Lib.hid ((hx7.block (w.heap.size+1) (by omega)).trans bR)
  have HW:=Lib.hid hw7
  have HX:=Lib.hid (show w0.heap.size<=w7.heap.size from hx7.size)
  clear hI o7 o6 hb6 hb7 hx7 hx6 hd0 hd1 h67 HR6 hr6 hw7 c0 c1
  have q0:IntKind.i64.wrap ((D.past.length:Int)+1 - 8)=(D.past.length:Int)+1 - 8:=IntWalk.i64_in _ (by omega)
  by_cases hq:D.past.length+1<=8
  ·have q1:max (0:Int) ((D.past.length:Int)+1 - 8)=0:=by omega
   have HPu:=Lib.hid (pushP_no (P:=D.past) (L:=D.now) (by omega))
   go_wp2_with fail
   refine HI2.out.mono ?_
   rintro e w8 ⟨up,us,rfl,o8,hb8⟩
   obtain ⟨Gp,gp,rfl,-,-,-⟩:=o8.form
   rw [hl] at o8 ⊢
   have hX:=HX.out
   have b8:=(hb8.block (w.heap.size+1) (by omega)).trans b7.out
   have r0:=cell_of_row _ (w.heap.size+1) 0 _ _ _ b8
   have r1:=cell_of_row _ (w.heap.size+1) 1 _ _ _ b8
   have f0:w8.frozen? ⟨w.heap.size+1,0,none⟩=false:=unfrozen_of b8
   have f1:w8.frozen? ⟨w.heap.size+1,1,none⟩=false:=unfrozen_of b8
   go_wp2_with fail
   obtain ⟨k0,k1⟩:=put2 (.slice A nn nc) (.slice Gp (D.past.length+1) gp) b8
   refine bodyPost_ret (v:=.agg #[.slice A nn nc,.slice Gp (D.past.length+1) gp]) (by simp [results,Tryz.f111,go_sem,k0,k1]) rfl ?_
   refine ⟨_,us,rfl,?_,((HW.out.trans (hb8.mono (by omega))).setCell (p:=⟨w.heap.size+1,0,none⟩) (by simp) _).setCell (p:=⟨w.heap.size+1,1,none⟩) (by simp) _⟩
   rw [HPu.out]
   exact ((o8.mono (show w.heap.size+2<=w7.heap.size by omega)).keptLow (grown_set1 w8 (w.heap.size+1) 0 _) (by omega)).keptLow (grown_set1 _ (w.heap.size+1) 1 _) (by omega)
  ·have q1:max (0:Int) ((D.past.length:Int)+1 - 8)=1:=by omega
   have q2:1 < c7:=by omega
   have q3:¬ c7=1:=by omega
   have HPu:=Lib.hid (pushP_cut (P:=D.past) (L:=D.now) (by omega))
   go_wp2_with fail
   refine HI3.out.mono ?_
   rintro e w8 ⟨up,us,rfl,o8,hb8⟩
   obtain ⟨Gp,gp,rfl,-,-,-⟩:=o8.form
   rw [show ((D.past++[D.now]).drop 1).length=D.past.length by rw [List.length_drop,hl];omega] at o8 ⊢
   have hX:=HX.out
   have b8:=(hb8.block (w.heap.size+1) (by omega)).trans b7.out
   have r0:=cell_of_row _ (w.heap.size+1) 0 _ _ _ b8
   have r1:=cell_of_row _ (w.heap.size+1) 1 _ _ _ b8
   have f0:w8.frozen? ⟨w.heap.size+1,0,none⟩=false:=unfrozen_of b8
   have f1:w8.frozen? ⟨w.heap.size+1,1,none⟩=false:=unfrozen_of b8
   go_wp2_with fail
   obtain ⟨k0,k1⟩:=put2 (.slice A nn nc) (.slice Gp D.past.length gp) b8
   refine bodyPost_ret (v:=.agg #[.slice A nn nc,.slice Gp D.past.length gp]) (by simp [results,Tryz.f111,go_sem,k0,k1]) rfl ?_
   refine ⟨_,us,rfl,?_,((HW.out.trans (hb8.mono (by omega))).setCell (p:=⟨w.heap.size+1,0,none⟩) (by simp) _).setCell (p:=⟨w.heap.size+1,1,none⟩) (by simp) _⟩
   rw [HPu.out]
   exact ((o8.mono (show w.heap.size+2<=w7.heap.size by omega)).keptLow (grown_set1 w8 (w.heap.size+1) 0 _) (by omega)).keptLow (grown_set1 _ (w.heap.size+1) 1 _) (by omega)
end
section
attribute [local go_sem ↓] Go.wp_at_zero Go.wp_at_succ
theorem KO.putRes {w:World} {base R:Nat} {vn vp:Value} {D:KV} {vs:List Value} (h:KO w base vn vp D vs) (x y:Value) (hR:R < base) {B:Nat} (hB:B<=base):KO ((w.setCell ⟨R,0,none⟩ x).setCell ⟨R,1,none⟩ y) B vn vp D vs :=
 (h.keptLow (W2_grown w R x y) hR).mono hB
theorem below_put {w W:World} {B R:Nat} (h:Below B w W) (x y:Value) (hR:B<=R):Below B w ((W.setCell ⟨R,0,none⟩ x).setCell ⟨R,1,none⟩ y):=(h.setCell (p:=⟨R,0,none⟩) hR _).setCell (p:=⟨R,1,none⟩) hR _
theorem resBox {w:World} {R:Nat} {t:TypeId} {x y:Value} (h:w.heap[R]?=some (.cells #[x,y] t (0,0))):w.cell? ⟨R,0,none⟩=some x∧w.cell? ⟨R,1,none⟩=some y∧w.frozen? ⟨R,0,none⟩=false∧w.frozen? ⟨R,1,none⟩=false :=
 ⟨cell_of_row _ R 0 _ _ _ h,cell_of_row _ R 1 _ _ _ h,unfrozen_of h,unfrozen_of h⟩
def backV (D:KV):KV:=⟨LL D.past (D.past.length - 1),D.past.take (D.past.length - 1)⟩
theorem c_backNo (D:KV) (vn vp:Value) (w:World) (hK:Ks w w.heap.size vn vp D) (hs:SmallK D) (hp:D.past.length=0) :
  Calls Tryz.prog 109 #[.agg #[vn,vp]] w fun e w'=>∃ un up us,e=.returned (.tuple #[.agg #[un,up],.bool false])∧KO w' w.heap.size un up D us∧Below w.heap.size w w':=by
 have HC:=Lib.hid (fun (W:World) (hb:Below w.heap.size w W)=>c_copied D vn vp W ((hK.below hb).more hb.size) hs)
 obtain ⟨⟨An,cn,rfl,hcn,hN⟩,Ap,cp,rfl,hcp,hP⟩:=hK
 obtain ⟨w0,hw0,hz0,hb0,bR,hS⟩:=two_boxes w (.slice An D.now.length cn) (.slice Ap D.past.length cp)
 have hle0:w.heap.size+2<=w0.heap.size:=by omega
 obtain ⟨c0,c1⟩:=hS _ (Below.refl _ w0)
 have q1:IntKind.i64.wrap ((D.past.length:Int) - 1)=(D.past.length:Int) - 1:=IntWalk.i64_in _ (by omega)
 have q2:(D.past.length:Int) - 1 < 0:=by omega
 clear hz0 hS hs hp hN hP
 go_enter Tryz.func109,Tryz.ntmps109
 go_wp2_with fail
 refine (HC.out _ hb0).mono ?_
 rintro e w1 ⟨un,up,us,rfl,ko,hb1⟩
 obtain ⟨A5,c5,A6,c6,rfl,rfl⟩:=ko.slices
 have b1:=(hb1.block (w.heap.size+1) (by omega)).trans bR
 obtain ⟨r0,r1,f0,f1⟩:=resBox b1
 have HK:=Lib.hid ko
 clear c0 c1 ko hw0
 go_wp2_with fail
 obtain ⟨k0,k1⟩:=put2 (.slice A5 D.now.length c5) (.slice A6 D.past.length c6) b1
 refine bodyPost_ret (v:=.tuple #[.agg #[.slice A5 D.now.length c5,.slice A6 D.past.length c6],.bool false]) (by simp [results,Tryz.f109,go_sem,k0,k1]) rfl ?_
 exact ⟨_,_,us,rfl,HK.out.putRes _ _ (by omega) (by omega),below_put (hb0.trans (hb1.mono (by omega))) _ _ (by omega)⟩
theorem c_backYes (D:KV) (vn vp:Value) (w:World) (hK:Ks w w.heap.size vn vp D) (hs:SmallK D) (hp:0 < D.past.length) :
  Calls Tryz.prog 109 #[.agg #[vn,vp]] w fun e w'=>∃ un up us,e=.returned (.tuple #[.agg #[un,up],.bool true])∧KO w' w.heap.size un up (backV D) us∧Below w.heap.size w w':=by
 obtain ⟨⟨An,cn,rfl,hcn,hN⟩,Ap,cp,rfl,hcp,hP⟩:=hK
 obtain ⟨hs1,hs2,hs3⟩:=hs
 obtain ⟨b,off,rfl,hlb,hc⟩:=hP hp
 obtain ⟨Ak,ck,d1,hck,hAk⟩:=hc (D.past.length - 1) (by omega)
 obtain ⟨w0,hw0,hz0,hb0,bR,hS⟩:=two_boxes w (.slice An D.now.length cn) (.slice (some ⟨b,off,none⟩) D.past.length cp)
 have hle0:w.heap.size+2<=w0.heap.size:=by omega
 have HL:=Lib.hid (show (LL D.past (D.past.length - 1)).length<=1000000000 from by have:=hs3 (D.past.length - 1) (by omega);omega)
 have HC:=Lib.hid (fun (W:World) (hb:Below w.heap.size w W)=>c_cloneC (LL D.past (D.past.length - 1)) Ak ck W ((hAk.below hb).more hb.size) HL.out)
 have hdl:(D.past.take (D.past.length - 1)).length=D.past.length - 1:=by rw [List.length_take];omega
 have HP:=Lib.hid (fun (W:World) (hb:Below w.heap.size w W)=>show Calls Tryz.prog 105 #[.slice (some ⟨b,off,none⟩) (D.past.length - 1) cp] W fun e w'=>∃ v vs,e=.returned v∧COO w' W.heap.size v (D.past.take (D.past.length - 1)) vs∧Below W.heap.size W w' from by
  have K:=c_copiesOf (D.past.take (D.past.length - 1)) (some ⟨b,off,none⟩) cp W (((hP.take _).below hb).more hb.size) (by omega) (fun k hk=>by
   rw [hdl] at hk
   rw [LL_take hk]
   have:=hs3 k (by omega);omega)
  rwa [hdl] at K)
 have HS:=Lib.hid (fun (W:World) (hb:Below (w.heap.size+1) w0 W)=>show W.cell? ⟨w.heap.size,1,none⟩=some (.slice (some ⟨b,off,none⟩) D.past.length cp)∧W.cell? ⟨b,off+(D.past.length - 1),none⟩=some (.slice Ak (LL D.past (D.past.length - 1)).length ck) from
  ⟨(hS W hb).2,((hb0.trans (hb.mono (by omega))).cell (p:=⟨b,off+(D.past.length - 1),none⟩) hlb).trans d1⟩)
 have hd0:Below w0.heap.size w0 w0.drew:=(Below.refl _ w0).drew
 obtain ⟨c0,c1⟩:=hS _ (Below.refl _ w0)
 obtain ⟨-,c2⟩:=HS.out _ (Below.refl _ w0)
 have q1:IntKind.i64.wrap ((D.past.length:Int) - 1)=(D.past.length:Int) - 1:=IntWalk.i64_in _ (by omega)
 have q2:¬ (D.past.length:Int) - 1 < 0:=by omega
 have p1:(0:Int)<=(D.past.length:Int) - 1:=by omega
 have p2:(D.past.length:Int) - 1 < (D.past.length:Int):=by omega
 have p3:1<=(D.past.length:Int):=by omega
 have p4:((D.past.length:Int) - 1).toNat=D.past.length - 1:=by omega
 have p5:D.past.length - 1<=cp:=by omega
 have p6:(D.past.length:Int) - 1<=(cp:Int):=by omega
 clear hN hP hs3 hS hc hAk d1 hz0
 go_enter Tryz.func109,Tryz.ntmps109
 go_wp2_with fail
 clear hw0
 go_region_held3 (fun W=>W.cell? ⟨w.heap.size,1,none⟩=some (.slice (some ⟨b,off,none⟩) D.past.length cp)∧W.cell? ⟨b,off+(D.past.length - 1),none⟩=some (.slice Ak (LL D.past (D.past.length - 1)).length ck))
  (first
    | exact HS.out _ hy7
    | exact HS.out _ (hx6.mono (by omega))
    | exact HS.out _ (hx5.mono (by omega))
    | go_keep)
  (first
    | (go_at_call 104;refine (HC.out _ (hb0.trans (hd0.mono (by omega)))).mono ?_;rintro e w5 ⟨un,rfl,o5,hb5⟩;obtain ⟨Gn,gn,rfl,-,-⟩:=o5.formG;have hx5:Below w0.heap.size w0 w5:=hd0.trans hb5)
    | (go_at_call 105;refine (HP.out w5 (hb0.trans (hx5.mono (by omega)))).mono ?_;rintro e w6 ⟨up,us,rfl,o6,hb6⟩;obtain ⟨Gp,gp,rfl,-,-,-⟩:=o6.form;rw [hdl] at o6 ⊢;have hz5:=hx5.size;have hx6:Below w0.heap.size w0 w6:=hx5.trans (hb6.mono hz5);have b6:=(hx6.block (w.heap.size+1) (by omega)).trans bR;obtain ⟨r0,r1,f0,f1⟩:=resBox b6;have hy7:=below_put (hx6.mono (show w.heap.size+1<=w0.heap.size by omega)) (.slice Gn (LL D.past (D.past.length - 1)).length gn) (.slice Gp (D.past.length - 1) gp) (Nat.le_refl (w.heap.size+1)))
    | fail)
 have l5:=owns_lt o5
 have hz0d:w0.drew.heap.size=w0.heap.size:=rfl
 have o6':COO w6 w5.heap.size (.slice Gp (D.past.length - 1) gp) (backV D).past us:=o6
 have ko:KO w6 w0.drew.heap.size (.slice Gn (LL D.past (D.past.length - 1)).length gn) (.slice Gp (D.past.length - 1) gp) (backV D) us :=
  (KCO.mk (o5.below hb6 (Nat.le_refl _)) (o6'.mono hz5) (fun r hr e=>by have:=l5 r hr;have:=o6'.base r e;omega) (fun k hk r hr e=>by have:=l5 r e;have:=(o6'.inner_lt hk hr).2;omega)).ko
 have HK:=Lib.hid ko
 have HB:=Lib.hid hy7
 clear ko o6' o6 o5 hy7 hx6 hx5
 go_wp2_with fail
 obtain ⟨k0,k1⟩:=put2 (.slice Gn (LL D.past (D.past.length - 1)).length gn) (.slice Gp (D.past.length - 1) gp) b6
 refine bodyPost_ret (v:=.tuple #[.agg #[.slice Gn (LL D.past (D.past.length - 1)).length gn,.slice Gp (D.past.length - 1) gp],.bool true]) (by simp [results,Tryz.f109,go_sem,k0,k1]) rfl ?_
 exact ⟨_,_,us,rfl,HK.out.putRes _ _ (by omega) (by omega),hb0.trans (HB.out.mono (by omega))⟩
theorem do_formNo {D:KV} {k a b:Int} (h:deskOk D=true) (hf:formOk k a b=false):deskDo D ⟨k,a,b⟩=(D,false):=by
 simp only [formOk,Bool.or_eq_false_iff,Bool.and_eq_false_iff,decide_eq_false_iff_not] at hf
 refine do_not h (fun ⟨e,_⟩=>?_) (by rw [made_no (by omega) (by omega) (by omega) (by omega)])
 injection e with e1 e2 e3
 omega
theorem c_after12 (D:KV) (vn vp:Value) (k a b:Int) (w:World) (hK:Ks w w.heap.size vn vp D) (hok:deskOk D=true) :
  Calls Tryz.prog 52 #[.agg #[vn,vp],.agg #[.int .i64 k,.int .i64 a,.int .i64 b]] w (DoP D ⟨k,a,b⟩ w):=by
 have hs:=small_ok hok
 have h8:=(deskOk_parts hok).2.2
 have HCp:=Lib.hid (fun (W:World) (hb:Below w.heap.size w W)=>c_copied D vn vp W ((hK.below hb).more hb.size) hs)
 have HBk:=Lib.hid (fun (hp:0 < D.past.length) (W:World) (hb:Below w.heap.size w W)=>c_backYes D vn vp W ((hK.below hb).more hb.size) hs hp)
 have HBn:=Lib.hid (fun (hp:D.past.length=0) (W:World) (hb:Below w.heap.size w W)=>c_backNo D vn vp W ((hK.below hb).more hb.size) hs hp)
 have HCh:=Lib.hid (fun (hf:formOk k a b=true) (h4:k≠4) (W:World) (hb:Below w.heap.size w W)=>c_changedBy D vn vp k a b W ((hK.below hb).more hb.size) hs hf h4)
 have HWi:=Lib.hid (fun (nv:Value) (hnv:∃ A n c,nv=.slice A n c) (W:World) (hb:Below w.heap.size w W)=>c_with D vn vp nv W ((hK.below hb).more hb.size) hs h8 hnv)
 obtain ⟨⟨An,cn,rfl,hcn,hN⟩,Ap,cp,rfl,hcp,hP⟩:=hK
 obtain ⟨w0,hw0⟩:∃ w0,((w.alloc (.cells #[.slice An D.now.length cn,.slice Ap D.past.length cp] 31)).alloc (.cells #[.int .i64 k,.int .i64 a,.int .i64 b] 39)).alloc (.cells #[.slice none 0 0,.slice none 0 0] 31)=w0:=⟨_,rfl⟩
 have hz0:w0.heap.size=w.heap.size+3:=by rw [<- hw0];simp
 have hb0:Below w.heap.size w w0:=by rw [<- hw0];exact (((Below.refl _ w).alloc (Nat.le_refl _) _).alloc (by simp) _).alloc (by simp;omega) _
 have bD:w0.heap[w.heap.size]?=some (.cells #[.slice An D.now.length cn,.slice Ap D.past.length cp] 31 (0,0)):=by rw [<- hw0];exact (Below.heap_alloc _ _ _ (by simp;omega)).trans ((Below.heap_alloc _ _ _ (by simp)).trans (heap_alloc_new _ _))
 have bE:w0.heap[w.heap.size+1]?=some (.cells #[.int .i64 k,.int .i64 a,.int .i64 b] 39 (0,0)):=by rw [<- hw0];exact (Below.heap_alloc _ _ _ (by simp)).trans (heap_newK _ _ _)
 have bR:w0.heap[w.heap.size+2]?=some (.cells #[.slice none 0 0,.slice none 0 0] 31 (0,0)):=by
  rw [<- hw0]
  have h:=heap_newK (w.alloc (.cells #[.slice An D.now.length cn,.slice Ap D.past.length cp] 31)) (.cells #[.int .i64 k,.int .i64 a,.int .i64 b] 39) (.cells #[.slice none 0 0,.slice none 0 0] 31)
  rwa [show (w.alloc (.cells #[.slice An D.now.length cn,.slice Ap D.past.length cp] 31)).heap.size+1=w.heap.size+2 by simp] at h
 have HS:=Lib.hid (fun (W:World) (hb:Below w0.heap.size w0 W)=>show W.cell? ⟨w.heap.size,0,none⟩=some (.slice An D.now.length cn)∧W.cell? ⟨w.heap.size,1,none⟩=some (.slice Ap D.past.length cp)∧W.cell? ⟨w.heap.size+1,0,none⟩=some (.int .i64 k)∧W.cell? ⟨w.heap.size+1,1,none⟩=some (.int .i64 a)∧W.cell? ⟨w.heap.size+1,2,none⟩=some (.int .i64 b) from by
  have b1:=(hb.block w.heap.size (by omega)).trans bD
  have b2:=(hb.block (w.heap.size+1) (by omega)).trans bE
  exact ⟨cell_of_row _ w.heap.size 0 _ _ _ b1,cell_of_row _ w.heap.size 1 _ _ _ b1,cell_of_row _ (w.heap.size+1) 0 _ _ _ b2,cell_of_row _ (w.heap.size+1) 1 _ _ _ b2,cell_of_row _ (w.heap.size+1) 2 _ _ _ b2⟩)
 have hle0:w.heap.size+3<=w0.heap.size:=by omega
 have HB0:=Lib.hid (fun (W:World) (h:Below w0.heap.size w0 W)=>hb0.trans (h.mono (show w.heap.size<=w0.heap.size by omega)))
 have HR:=Lib.hid (fun (W:World) (h:Below w0.heap.size w0 W)=>(h.block (w.heap.size+2) (by omega)).trans bR)
 obtain ⟨c0,c1,c2,c3,c4⟩:=HS.out _ (Below.refl _ w0)
 clear hN hP hs bD bE bR hz0
 cases hf:formOk k a b with
 | false =>
  have HV:=Lib.hid (do_formNo hok hf)
  have HF:=Lib.hid hf
  clear hf hok
  go_enter Tryz.func52,Tryz.ntmps52
  go_wp2_with fail
  refine (c_form _ _ _ _).mono ?_
  rintro e w1 ⟨⟨f,rfl,-,W,n,rfl⟩,hb1⟩
  rw [HF.out]
  have hx1:=hb1.alloc hb1.size (.cells #[.string W,.int .i64 n] 82)
  obtain ⟨d0,d1,-⟩:=HS.out _ hx1
  clear c0 c1 c2 c3 c4 hw0
  go_wp2_with fail
  refine (HCp.out _ (HB0.out _ hx1)).mono ?_
  rintro e w2 ⟨un,up,us,rfl,ko,hb2⟩
  obtain ⟨A5,c5,A6,c6,rfl,rfl⟩:=ko.slices
  have hx2:=hx1.trans (hb2.mono hx1.size)
  have b2:=HR.out _ hx2
  obtain ⟨r0,r1,f0,f1⟩:=resBox b2
  have HK:=Lib.hid ko
  have hsz:=hx1.size
  clear d0 d1 ko
  go_wp2_with fail
  obtain ⟨k0,k1⟩:=put2 (.slice A5 D.now.length c5) (.slice A6 D.past.length c6) b2
  refine bodyPost_ret (v:=.tuple #[.agg #[.slice A5 D.now.length c5,.slice A6 D.past.length c6],.bool false]) (by simp [results,Tryz.f52,go_sem,k0,k1]) rfl ?_
  exact ⟨_,_,us,by rw [HV.out],by rw [HV.out];exact HK.out.putRes _ _ (by omega) (by omega),below_put (HB0.out _ hx2) _ _ (by omega)⟩
 | true =>
  by_cases h4:k=4
  ·subst h4
   obtain ⟨rfl,rfl⟩:a=0∧b=0:=by
    simp only [formOk,Bool.or_eq_true,Bool.and_eq_true,decide_eq_true_eq] at hf
    omega
   have HF:=Lib.hid hf
   clear hf
   by_cases hp:0 < D.past.length
   ·have HV:=Lib.hid (show deskDo D ⟨4,0,0⟩=(backV D,true) from do_back hok hp)
    have HBy:=Lib.hid (HBk.out hp)
    clear hok hp
    go_enter Tryz.func52,Tryz.ntmps52
    go_wp2_with fail
    refine (c_form _ _ _ _).mono ?_
    rintro e w1 ⟨⟨f,rfl,-,W,n,rfl⟩,hb1⟩
    rw [HF.out]
    have hx1:=hb1.alloc hb1.size (.cells #[.string W,.int .i64 n] 82)
    obtain ⟨d0,d1,d2,d3,d4⟩:=HS.out _ hx1
    clear c0 c1 c2 c3 c4 hw0
    go_wp2_with fail
    refine (HBy.out _ (HB0.out _ hx1)).mono ?_
    rintro e w2 ⟨un,up,us,rfl,ko,hb2⟩
    obtain ⟨A5,c5,A6,c6,rfl,rfl⟩:=ko.slices
    have hx2:=hx1.trans (hb2.mono hx1.size)
    have b2:=HR.out _ hx2
    obtain ⟨r0,r1,f0,f1⟩:=resBox b2
    have HK:=Lib.hid ko
    have hsz:=hx1.size
    clear d0 d1 d2 d3 d4 ko
    go_wp2_with fail
    obtain ⟨k0,k1⟩:=put2 (.slice A5 (backV D).now.length c5) (.slice A6 (backV D).past.length c6) b2
    refine bodyPost_ret (v:=.tuple #[.agg #[.slice A5 (backV D).now.length c5,.slice A6 (backV D).past.length c6],.bool true]) (by simp [results,Tryz.f52,go_sem,k0,k1]) rfl ?_
    exact ⟨_,_,us,by rw [HV.out],by rw [HV.out];exact HK.out.putRes _ _ (by omega) (by omega),below_put (HB0.out _ hx2) _ _ (by omega)⟩
   ·have hp0:D.past.length=0:=by omega
    have HV:=Lib.hid (show deskDo D ⟨4,0,0⟩=(D,false) from do_not hok (fun h=>hp h.2) (by rw [made_no (by omega) (by omega) (by omega) (by omega)]))
    have HBy:=Lib.hid (HBn.out hp0)
    clear hok hp hp0
    go_enter Tryz.func52,Tryz.ntmps52
    go_wp2_with fail
    refine (c_form _ _ _ _).mono ?_
    rintro e w1 ⟨⟨f,rfl,-,W,n,rfl⟩,hb1⟩
    rw [HF.out]
    have hx1:=hb1.alloc hb1.size (.cells #[.string W,.int .i64 n] 82)
    obtain ⟨d0,d1,d2,d3,d4⟩:=HS.out _ hx1
    clear c0 c1 c2 c3 c4 hw0
    go_wp2_with fail
    refine (HBy.out _ (HB0.out _ hx1)).mono ?_
    rintro e w2 ⟨un,up,us,rfl,ko,hb2⟩
    obtain ⟨A5,c5,A6,c6,rfl,rfl⟩:=ko.slices
    have hx2:=hx1.trans (hb2.mono hx1.size)
    have b2:=HR.out _ hx2
    obtain ⟨r0,r1,f0,f1⟩:=resBox b2
    have HK:=Lib.hid ko
    have hsz:=hx1.size
    clear d0 d1 d2 d3 d4 ko
    go_wp2_with fail
    obtain ⟨k0,k1⟩:=put2 (.slice A5 D.now.length c5) (.slice A6 D.past.length c6) b2
    refine bodyPost_ret (v:=.tuple #[.agg #[.slice A5 D.now.length c5,.slice A6 D.past.length c6],.bool false]) (by simp [results,Tryz.f52,go_sem,k0,k1]) rfl ?_
    exact ⟨_,_,us,by rw [HV.out],by rw [HV.out];exact HK.out.putRes _ _ (by omega) (by omega),below_put (HB0.out _ hx2) _ _ (by omega)⟩
  ·have p4:(k == 4)=false:=beq_eq_false_iff_ne.2 h4
   have HF:=Lib.hid hf
   have HCy:=Lib.hid (HCh.out hf h4)
   have hnb:¬ ((⟨k,a,b⟩:DV)=⟨4,0,0⟩∧0 < D.past.length):=fun h=>by injection h.1 with e1;exact h4 e1
   clear hf HCh
   cases hm:(madeV D.now ⟨k,a,b⟩).2 with
   | false =>
    have HV:=Lib.hid (do_not hok hnb hm)
    have HM:=Lib.hid hm
    clear hok hnb hm h4
    go_enter Tryz.func52,Tryz.ntmps52
    go_wp2_with fail
    refine (c_form _ _ _ _).mono ?_
    rintro e w1 ⟨⟨f,rfl,-,W,n,rfl⟩,hb1⟩
    rw [HF.out]
    have hx1:=hb1.alloc hb1.size (.cells #[.string W,.int .i64 n] 82)
    obtain ⟨d0,d1,d2,d3,d4⟩:=HS.out _ hx1
    clear c0 c1 c2 c3 c4 hw0
    go_wp2_with fail
    refine (HCy.out _ (HB0.out _ hx1)).mono ?_
    rintro e w2 ⟨v2,rfl,-,hb2⟩
    rw [HM.out]
    have hx2:=hx1.trans (hb2.mono hx1.size)
    obtain ⟨g0,g1,-⟩:=HS.out _ hx2
    clear d0 d1 d2 d3 d4
    go_wp2_with fail
    refine (HCp.out _ (HB0.out _ hx2)).mono ?_
    rintro e w3 ⟨un,up,us,rfl,ko,hb3⟩
    obtain ⟨A5,c5,A6,c6,rfl,rfl⟩:=ko.slices
    have hx3:=hx2.trans (hb3.mono hx2.size)
    have b3:=HR.out _ hx3
    obtain ⟨r0,r1,f0,f1⟩:=resBox b3
    have HK:=Lib.hid ko
    have hsz:=hx2.size
    clear g0 g1 ko
    go_wp2_with fail
    obtain ⟨k0,k1⟩:=put2 (.slice A5 D.now.length c5) (.slice A6 D.past.length c6) b3
    refine bodyPost_ret (v:=.tuple #[.agg #[.slice A5 D.now.length c5,.slice A6 D.past.length c6],.bool false]) (by simp [results,Tryz.f52,go_sem,k0,k1]) rfl ?_
    exact ⟨_,_,us,by rw [HV.out],by rw [HV.out];exact HK.out.putRes _ _ (by omega) (by omega),below_put (HB0.out _ hx3) _ _ (by omega)⟩
   | true =>
    have HV:=Lib.hid (do_made hok hnb hm)
    have HM:=Lib.hid hm
    clear hok hnb hm h4
    go_enter Tryz.func52,Tryz.ntmps52
    go_wp2_with fail
    refine (c_form _ _ _ _).mono ?_
    rintro e w1 ⟨⟨f,rfl,-,W,n,rfl⟩,hb1⟩
    rw [HF.out]
    have hx1:=hb1.alloc hb1.size (.cells #[.string W,.int .i64 n] 82)
    obtain ⟨d0,d1,d2,d3,d4⟩:=HS.out _ hx1
    clear c0 c1 c2 c3 c4 hw0
    go_wp2_with fail
    refine (HCy.out _ (HB0.out _ hx1)).mono ?_
    rintro e w2 ⟨v2,rfl,o2,hb2⟩
    have o2:=o2 HM.out
    rw [HM.out]
    generalize hM:(madeV D.now ⟨k,a,b⟩).1=M at *
    obtain ⟨Gm,gm,rfl,-,-⟩:=o2.formG
    have hx2:=hx1.trans (hb2.mono hx1.size)
    obtain ⟨g0,g1,-⟩:=HS.out _ hx2
    clear d0 d1 d2 d3 d4
    go_wp2_with fail
    refine (HWi.out _ ⟨_,_,_,rfl⟩ _ (HB0.out _ hx2)).mono ?_
    rintro e w3 ⟨up,us,rfl,o3,hb3⟩
    obtain ⟨Gp,gp,rfl,-,-,-⟩:=o3.form
    have hx3:=hx2.trans (hb3.mono hx2.size)
    have b3:=HR.out _ hx3
    obtain ⟨r0,r1,f0,f1⟩:=resBox b3
    have hsz:=hx1.size
    have hsz2:=hx2.size
    have l2:=owns_lt o2
    have o3':COO w3 (w2.heap.size+2) (.slice Gp (pushP D.past D.now).length gp) (⟨M,pushP D.past D.now⟩:KV).past us:=o3
    have HK:=Lib.hid (show KO w3 w0.heap.size (.slice Gm M.length gm) (.slice Gp (pushP D.past D.now).length gp) ⟨M,pushP D.past D.now⟩ us from
     (KCO.mk ((o2.below hb3 (Nat.le_refl _)).mono hsz) (o3'.mono (by omega)) (fun r hr e=>by have:=l2 r hr;have:=o3'.base r e;omega) (fun j hj r hr e=>by have:=l2 r e;have:=(o3'.inner_lt hj hr).2;omega)).ko)
    clear g0 g1 o2 o3 o3' l2
    go_wp2_with fail
    obtain ⟨k0,k1⟩:=put2 (.slice Gm M.length gm) (.slice Gp (pushP D.past D.now).length gp) b3
    refine bodyPost_ret (v:=.tuple #[.agg #[.slice Gm M.length gm,.slice Gp (pushP D.past D.now).length gp],.bool true]) (by simp [results,Tryz.f52,go_sem,k0,k1]) rfl ?_
    exact ⟨_,_,us,by rw [HV.out],by rw [HV.out];exact HK.out.putRes _ _ (by omega) (by omega),below_put (HB0.out _ hx3) _ _ (by omega)⟩
end
section
open Go.RowKit Go.Shelf
attribute [local go_sem] Oper.semAt_some
def Kpt (B Bs:Nat) (W W':World):Prop:=Below B W W'∧W'.heap[Bs]?=W.heap[Bs]?
theorem Kpt.t {B Bs:Nat} {A C D:World} (h:Kpt B Bs A C) (k:Kpt B Bs C D):Kpt B Bs A D:=⟨h.1.trans k.1,k.2.trans h.2⟩
theorem Kpt.b {B Bs:Nat} {w:World} (hn:B<=w.heap.size) (hs:Bs < w.heap.size) (W:World) (l:Nat) (o o':Obj) (hl:w.heap.size<=l) (h:W.heap[l]?=some o) (h1:o.isCells=false) (h2:o.isWalk=false):Kpt B Bs W (W.putObj l o') :=
 ⟨belowK_b hn W l o o' hl h h1 h2,by
   have hg:=grownBy_putObj' W l o'
   have:=(Array.getElem?_eq_some_iff.1 h).1
   exact hg.block Bs (by omega) (by simp;omega)⟩
end
section
open Go.RowKit Go.Shelf
attribute [local go_sem] Oper.semAt_some
def wkTo (L:List (Int×Int)) (t:Nat) (j:Nat):Int:=carry L t+(sumTo L j - sumTo L (cnt L ((t:Int) - 1)))
theorem wkTo_first (L:List (Int×Int)) (t:Nat):wkTo L t (cnt L ((t:Int) - 1))=carry L t:=by unfold wkTo;omega
theorem wkTo_last {L:List (Int×Int)} (h:cOk L=true) (t:Nat):wkTo L t (cnt L t)=wk L t:=by
 have a:=arr_cnt h (t:Int)
 have b:=wk_carry L t
 unfold wkTo;omega
theorem wkTo_succ (L:List (Int×Int)) (t j:Nat):wkTo L t (j+1)=wkTo L t j+Y L j:=by simp only [wkTo,sumTo];omega
theorem carry_bd {L:List (Int×Int)} (h:cOk L=true) (t:Nat):0<=carry L t∧carry L t<=72:=by
 cases t with
 | zero=>simp [carry]
 | succ u=>have:=wk_bd h u;simp only [carry];omega
theorem wkTo_bd {L:List (Int×Int)} (h:cOk L=true) (t j:Nat) (hj:j<=L.length):-72<=wkTo L t j∧wkTo L t j<=144:=by
 have:=carry_bd h t
 have:=sumTo_le h hj
 have:=sumTo_le h (cnt_le L ((t:Int) - 1))
 unfold wkTo;omega
theorem cnt_zero {L:List (Int×Int)} (h:cOk L=true):cnt L (((0:Nat):Int) - 1)=0:=cnt_neg h
theorem workFrom1_in (F:Fence) (n:Nat) (h58:F.fn 234) (hro:F.round=none) (hn:1<=n) (l Bl B cap:Nat) (A:Option Addr) (L:List (Int×Int)) (hok:cOk L=true)
  (J Jx:List (Fin 201)->World->Prop) (W:World)
  (hY:∀ pre x W1,J pre W1->x.1=pre.length->YieldAt F (n - 1) Tryz.prog l #[.int .i64 (x.1:Int),.int .i64 (wk L x.1)] W1 fun e W' =>
    (e=.returned (.bool true)∧J (pre++[x]) W'∧Kpt B Bl W1 W')∨(e=.returned (.bool false)∧Jx (pre++[x]) W'))
  (hBl:W.heap[Bl]?=some (.cells #[.slice A L.length cap] 28 (0,0))) (hc:Cs W B A L) (h0:J [] W) :
  CallsIn F n Tryz.prog 234 #[.func (.yield l) #[] #[],.pointer (some ⟨Bl,0,none⟩)] W fun e W'=>(∃ v,e=.returned v) ∧
   ((∃ ys,(ys.map Fin.val=List.range 201)∧J ys W')∨(∃ pre,(∃ k,pre.map Fin.val=List.range (k+1))∧Jx pre W')):=by
 have Hbd:=Lib.hid (fun k=>@cOk_bd L k hok)
 have Hlt:=Lib.hid (fun t j hj=>@lt_cnt L hok t j hj)
 have Hwt:=Lib.hid (fun t j hj=>@wkTo_bd L hok t j hj)
 have Hwk:=Lib.hid (fun t=>@wk_bd L hok t)
 have Hcb:=Lib.hid (fun t=>@carry_bd L hok t)
 have Hlast:=Lib.hid (fun t=>@wkTo_last L hok t)
 have Hcz:=Lib.hid (cnt_zero hok)
 have hlen:=cOk_len hok
 refine callsIn_of_wp Tryz.func234 rfl h58 ?_ hro
 simp only [Tryz.ntmps234,List.size_toArray,List.length_cons,List.length_nil,Nat.reduceAdd,Nat.reduceSub,Array.replicate_succ,Array.replicate_zero,List.push_toArray,List.append_toArray,List.nil_append,List.cons_append]
 gi_wp2
 gi_loopw [3,4,6] (fun q c i wr=>∃ (t:Nat) (pre:List (Fin 201)),t<=201∧i=.int .i64 t∧q=.int .i64 (carry L t)∧c=.int .i64 (cnt L ((t:Int) - 1))∧pre.map Fin.val=List.range t∧J pre wr∧Kpt B Bl W wr)
  (fun _ _ i _=>201 - (intOf i).toNat)
 case atStart=>exact ⟨0,[],by omega,rfl,rfl,by rw [Hcz.out];rfl,rfl,h0,Below.refl _ _,rfl⟩
 case round =>
  obtain ⟨t,pre,ht,rfl,rfl,rfl,hpre,hJs,hnx⟩:=hrel
  have hbr:wr.cell? ⟨Bl,0,none⟩=some (.slice A L.length cap):=by simp [World.cell?,hnx.2,hBl]
  by_cases hlt:t < 201
  ·have hcl:=cnt_le' L (t:Int)
   have hcl2:=cnt_le L (t:Int)
   have hlt':(t:Int) < 201:=by omega
   have Hf:=Lib.hid (wkTo_first L t)
   gi_wp2
   gi_loop [3,4] (fun s i=>∃ j:Nat,cnt L ((t:Int) - 1)<=j∧j<=cnt L t∧i=.int .i64 j∧s=.int .i64 (wkTo L t j)) (fun _ i=>L.length - (intOf i).toNat)
   case atStart=>exact ⟨cnt L ((t:Int) - 1),Nat.le_refl _,hcl,rfl,by rw [Hf.out]⟩
   case round =>
    obtain ⟨j,hj1,hj2,rfl,rfl⟩:=hrel
    have bw:=Hwt.out t j (by omega)
    by_cases hjl:j < L.length
    ·obtain ⟨b,off,rfl,hlb,hcc⟩:=hc (by omega)
     have c1:=(hnx.1.cell (p:=⟨b,off+j * 2,none⟩) hlb).trans (hcc j hjl).1
     have c2:=(hnx.1.cell (p:=⟨b,off+j * 2+1,none⟩) hlb).trans (hcc j hjl).2
     have b2:=Hbd.out j hjl
     have hjl':(j:Int) < (L.length:Int):=by omega
     have hj0':(0:Int)<=(j:Int):=by omega
     have hjc:=Hlt.out (t:Int) j hjl
     clear hcc
     by_cases he:X L j<=t
     ·have E:=Lib.hid (wkTo_succ L t j)
      have hjc2:=hjc.2 he
      clear hjc
      gi_wp2
      go_round
      case rel=>exact ⟨j+1,by omega,by omega,by go_num,by rw [E.out]⟩
      case measure=>simp [intOf];omega
     ·have hje:j=cnt L t:=by
       have:¬ j < cnt L t:=fun x=>he (hjc.1 x)
       omega
      clear hjc
      subst hje
      rw [Hlast.out] at bw ⊢
      have hpl:pre.length=t:=by rw [<- List.length_map (f:=Fin.val),hpre];simp
      obtain ⟨x,hx⟩:∃ x:Fin 201,x.1=t:=⟨⟨t,hlt⟩,rfl⟩
      obtain ⟨fn,tmps,assign,body,hy,hR⟩:=hY pre x wr hJs (by omega)
      rw [hx] at hy
      have HX:=Lib.hid hx;clear hx
      have Hpre:=Lib.hid hpre;clear hpre hpl
      have bw2:=Hwk.out t
      gi_wp2
      refine hR.mono ?_
      rintro e W3 (⟨rfl,hJ3,hk3⟩ | ⟨rfl,hJx3⟩)
      ·gi_wp2
       go_roundw
       case rel =>
        refine ⟨t+1,pre++[x],by omega,by go_num,?_,?_,?_,hJ3,hnx.t hk3⟩
        ·simp only [carry]
         congr 1
         omega
        ·rw [show ((t+1:Nat):Int) - 1=t by omega]
        ·rw [List.map_append,Hpre.out,List.range_succ]
         simp only [List.map_cons,List.map_nil,HX.out]
       case measure=>simp [intOf];omega
      ·gi_wp2
       refine bodyPost_ret (results_none rfl _ _ _) rfl ?_
       exact ⟨⟨_,rfl⟩,.inr ⟨pre++[x],⟨t,by rw [List.map_append,Hpre.out,List.range_succ];simp only [List.map_cons,List.map_nil,HX.out]⟩,hJx3⟩⟩
    ·have hjf:¬ ((j:Int) < (L.length:Int)):=by omega
     have hje:j=cnt L t:=by omega
     subst hje
     rw [Hlast.out] at bw ⊢
     have hpl:pre.length=t:=by rw [<- List.length_map (f:=Fin.val),hpre];simp
     obtain ⟨x,hx⟩:∃ x:Fin 201,x.1=t:=⟨⟨t,hlt⟩,rfl⟩
     obtain ⟨fn,tmps,assign,body,hy,hR⟩:=hY pre x wr hJs (by omega)
     rw [hx] at hy
     have HX:=Lib.hid hx;clear hx
     have Hpre:=Lib.hid hpre;clear hpre hpl
     have bw2:=Hwk.out t
     gi_wp2
     refine hR.mono ?_
     rintro e W3 (⟨rfl,hJ3,hk3⟩ | ⟨rfl,hJx3⟩)
     ·gi_wp2
      go_roundw
      case rel =>
       refine ⟨t+1,pre++[x],by omega,by go_num,?_,?_,?_,hJ3,hnx.t hk3⟩
       ·simp only [carry]
        congr 1
        omega
       ·rw [show ((t+1:Nat):Int) - 1=t by omega]
       ·rw [List.map_append,Hpre.out,List.range_succ]
        simp only [List.map_cons,List.map_nil,HX.out]
      case measure=>simp [intOf];omega
     ·gi_wp2
      refine bodyPost_ret (results_none rfl _ _ _) rfl ?_
      exact ⟨⟨_,rfl⟩,.inr ⟨pre++[x],⟨t,by rw [List.map_append,Hpre.out,List.range_succ];simp only [List.map_cons,List.map_nil,HX.out]⟩,hJx3⟩⟩
  ·have hlf:¬ ((t:Int) < 201):=by omega
   gi_wp2
   go_end0
   obtain rfl:t=201:=by omega
   exact ⟨⟨_,rfl⟩,.inl ⟨pre,hpre,hJs⟩⟩
end
section
open Go.RowKit Go.Shelf
attribute [local go_sem] Oper.semAt_some
theorem workFrom0_in (F:Fence) (n:Nat) (h56:F.fn 202) (hro:F.round=none) (A:Option Addr) (len cap:Nat) (w:World) :
  CallsIn F n Tryz.prog 202 #[.slice A len cap] w fun e w'=>e=.returned (.func (.func 234) #[] #[.pointer (some ⟨w.heap.size,0,none⟩)])∧w'=w.alloc (.cells #[.slice A len cap] 28):=by
 refine callsIn_of_wp Tryz.func202 rfl h56 ?_ hro
 simp only [Tryz.ntmps202,List.size_toArray,List.length_cons,List.length_nil,Nat.reduceAdd,Nat.reduceSub,Array.replicate_succ,Array.replicate_zero,List.push_toArray,List.append_toArray,List.nil_append,List.cons_append]
 gi_wp2
 go_ret
 exact ⟨rfl,rfl⟩
theorem workFrom0_stops (F:Fence) (n:Nat) (h58:F.fn 234) (hro:F.round=none) (hn:1<=n) (Bl B cap:Nat) (A:Option Addr) (L:List (Int×Int)) (hok:cOk L=true) (w:World) (hB:B<=w.heap.size)
  (hBl:w.heap[Bl]?=some (.cells #[.slice A L.length cap] 28 (0,0))) (hc:Cs w B A L) :
  SeqStopsK F n Tryz.prog 234 #[.pointer (some ⟨Bl,0,none⟩)] (fun x:Fin 201=>#[Value.int .i64 (x.1:Int),.int .i64 (wk L x.1)]) (Kpt B Bl)
   (fun ys=>ys.map Fin.val=List.range 201) (fun pre=>∃ k,pre.map Fin.val=List.range (k+1)) 201 w:=fun l J Jx W hW _ _ hY h0=>by
 have h1:Bl < w.heap.size:=(Array.getElem?_eq_some_iff.1 hBl).1
 exact workFrom1_in F n h58 hro hn l Bl B cap A L hok J Jx W (fun pre x W1 h hx=>hY pre x W1 h (by have:=x.2;omega)) ((hW.block Bl h1).trans hBl) (hc.below (hW.mono hB)) h0
theorem momentOk_no {L:List (Int×Int)} {t:Int} (h:cOk L=false):momentOk L t=false:=by simp [momentOk,h]
theorem workV_at {L:List (Int×Int)} (h:cOk L=true) (x:Fin 201):workV L (x.1:Int)=wk L x.1:=by
 have hx:=x.2
 rw [workV_yes (by simp [momentOk,h];omega)];simp
theorem workV_out {L:List (Int×Int)} {t:Int} {ys:List (Fin 201)} (hy:ys.map Fin.val=List.range 201) (h:∀ x ∈ ys,(x.1:Int)≠t):workV L t=-1:=by
 refine workV_no ?_
 refine Bool.eq_false_iff.2 fun hm=>?_
 obtain ⟨n,rfl,hn,-⟩:=momentOk_nat hm
 have hmem:n ∈ ys.map Fin.val:=by rw [hy];exact List.mem_range.2 (by omega)
 obtain ⟨x,hx,e⟩:=List.mem_map.1 hmem
 exact h x hx (by rw [e])
theorem c_iWorkAt (L:List (Int×Int)) (A:Option Addr) (c:Nat) (t:Int) (w:World) (hA:Cs w w.heap.size A L) (hn:L.length<=140737488351232) :
  Calls Tryz.prog 173 #[.slice A L.length c,.int .i64 t] w fun e w'=>e=.returned (.int .i64 (workV L t))∧Below w.heap.size w w':=by
 have hb0:Below w.heap.size w ((w.alloc (.cells #[.int .i64 t] 3)).alloc (.cells #[.int .i64 0] 3)):=by (repeat (first | exact rfl | exact Below.refl _ _ | (with_reducible refine Below.drew ?_) | (with_reducible refine Below.drewN ?_ _) | (with_reducible refine Below.alloc ?_ ?_ _) | (with_reducible refine Below.setCell ?_ ?_ _) | (show _<=_;focus (first | omega | (simp;done) | (simp;omega)))))
 by_cases h:cOk L=true
 ·have H:=Lib.hid h;clear h
  refine (callsIn_wide (n:=6)).1 ?_
  refine callsIn_of_wp_marks Tryz.func173 rfl trivial ?_ rfl
  simp only [Tryz.ntmps173,List.size_toArray,List.length_cons,List.length_nil,Nat.reduceAdd,Nat.reduceSub,Array.replicate_succ,Array.replicate_zero,List.push_toArray,List.append_toArray,List.nil_append,List.cons_append]
  gi_wp2_with (refine ⟨trivial,?_⟩;gi_at_call 61;refine (callsIn_wide.2 (c_iCustomersOk L A c _ ((hA.below hb0).more hb0.size) hn)).mono ?_;rw [H.out];rintro e w1 ⟨rfl,hb1⟩)
  have bT:=((Boxed.new w 3 (.int .i64 t)).alloc (.cells #[.int .i64 0] 3))
  have bR:=Boxed.new (w.alloc (.cells #[.int .i64 t] 3)) 3 (.int .i64 0)
  simp only [World.size_alloc] at bR
  have hbs:=hb1.size
  simp only [World.size_alloc] at hbs
  have bT1:Boxed w1 w.heap.size 3 (.int .i64 t):=(hb1.block _ (by simp;omega)).trans bT
  have bR1:Boxed w1 (w.heap.size+1) 3 (.int .i64 0):=(hb1.block _ (by simp)).trans bR
  have hbx:=hb0.trans (hb1.mono (by simp;omega))
  clear bT bR hb1 hb0
  gi_wp2_with (refine ⟨trivial,?_⟩;gi_at_call 202;refine (workFrom0_in _ _ trivial rfl _ _ _ _).mono ?_;rintro e w' ⟨rfl,rfl⟩)
  obtain ⟨W0,hW0⟩:∃ W0,w1.alloc (.cells #[.slice A L.length c] 28)=W0:=⟨_,rfl⟩
  have bT0:=bT1.alloc (.cells #[.slice A L.length c] 28)
  have bR0:=bR1.alloc (.cells #[.slice A L.length c] 28)
  have bL0:=heap_alloc_new w1 (.cells #[.slice A L.length c] 28)
  have hB0:Below w.heap.size w (w1.alloc (.cells #[.slice A L.length c] 28)):=hbx.alloc (by omega) _
  have hsz:(w1.alloc (.cells #[.slice A L.length c] 28)).heap.size=w1.heap.size+1:=by simp
  rw [hW0] at bT0 bR0 bL0 hB0 hsz ⊢
  clear hW0 bT1 bR1 hbx
  refine wpIn_rangeFunc_ownH rfl (by omega) (gf:=234) (lb:=#[.pointer (some ⟨w1.heap.size,0,none⟩)]) rfl trivial (enters_of Tryz.func234 (by kernel_rfl) rfl)
   (workFrom0_stops Fence.wide _ trivial rfl (by omega) w1.heap.size w.heap.size c A L H.out W0 (by omega) bL0 (hA.below hB0)) Kpt.t (Kpt.b (by omega) (by omega)) (Below.refl _ _) (fun _=>rfl)
   (fun pre W=>((∀ x ∈ pre,(x.1:Int)≠t)∧(Boxed W w.heap.size 3 (.int .i64 t)∧Boxed W (w.heap.size+1) 3 (.int .i64 0)))∧(Below w.heap.size w W∧W0.heap.size<=W.heap.size))
   (fun cd pre W=>((cd=.ret∧∃ x ∈ pre,(x.1:Int)=t)∧Boxed W (w.heap.size+1) 3 (.int .i64 (workV L t)))∧Below w.heap.size w W)
   (OwnFrom.and (OwnFrom.and (fun _ _ _ _ hs _ _=>hs) (OwnFrom.and (Own.from (boxed_own _ _ _) _) (Own.from (boxed_own _ _ _) _))) (OwnFrom.and (ownFrom_below (Nat.le_refl _) (by omega)) (fun s A B row hs hg hr=>Nat.le_trans hs hg.size)))
   (fun _=>OwnFrom.and (OwnFrom.and (fun _ _ _ _ hs _ _=>hs) (Own.from (boxed_own _ _ _) _)) (ownFrom_below (Nat.le_refl _) (by omega)))
   ⟨⟨(fun x hx=>by cases hx),bT0,bR0⟩,hB0,Nat.le_refl _⟩
   (fun x a' W=>a'={ tmps:=#[.slice A L.length c,.int .i64 t,undef,.pointer (some ⟨w.heap.size,0,none⟩),.pointer (some ⟨w.heap.size+1,0,none⟩),.int .i64 (x.1:Int),.int .i64 (wk L x.1),.slice A L.length c,.bool true,.bool false,.slice A L.length c,.func (.func 234) #[] #[.pointer (some ⟨w1.heap.size,0,none⟩)],.int .i64 (x.1:Int),.int .i64 (wk L x.1),undef,undef,undef,undef],defers:=[] })
   (fun x a' _ P Q row hs hg hr=>hs)
   ?assign ?body ?done ?stop
  case assign =>
   rintro l pre x W K hI hK
   gi_wp2
   exact hK _ _ (KeepsFrom.refl _ _) ⟨Below.refl _ W,rfl⟩ hI rfl
  case body =>
   rintro l pre x a' W hl ⟨r,hr⟩ ⟨⟨hne,bT,bR⟩,hB1,hZ⟩ rfl hlt
   have cT:=bT.cell
   have cR:=bR.cell
   have fR:=bR.frozen
   have bx:=x.2
   by_cases he:(x.1:Int)=t
   ·have heb:((x.1:Int) == t)=true:=beq_iff_eq.2 he
    have hs:∀ v:Int,v=wk L x.1->KeepsFrom W0.heap.size W (W.setCell ⟨w.heap.size+1,0,none⟩ (.int .i64 v)) ∧
      ((∃ y ∈ pre++[x],(y.1:Int)=t)∧Boxed (W.setCell ⟨w.heap.size+1,0,none⟩ (.int .i64 v)) (w.heap.size+1) 3 (.int .i64 (workV L t))∧Below w.heap.size w (W.setCell ⟨w.heap.size+1,0,none⟩ (.int .i64 v))):=by
     intro v e
     refine ⟨(KeepsOthers.setCell _ _ _).from _,⟨x,by simp,he⟩,?_,hB1.setCell (p:=⟨w.heap.size+1,0,none⟩) (by simp) _⟩
     rw [<- he,workV_at H.out x,<- e]
     exact bR.set _
    have HSS:=Lib.hid hs
    clear hs he
    gi_wp2
    obtain ⟨q1,q2,q3,q4⟩:=HSS.out _ rfl
    exact ⟨q1,⟨⟨rfl,q2⟩,q3⟩,q4⟩
   ·have heb:((x.1:Int) == t)=false:=beq_eq_false_iff_ne.2 he
    have HN:=Lib.hid (show ∀ y ∈ pre++[x],(y.1:Int)≠t from fun y hy=>by
     rcases List.mem_append.1 hy with h | h
     ·exact hne y h
     ·rw [List.mem_singleton.1 h];exact he)
    clear hne he
    gi_wp2
    exact ⟨KeepsFrom.refl _ _,⟨Below.refl _ W,rfl⟩,⟨HN.out,bT,bR⟩,hB1,hZ⟩
  case done =>
   rintro D ys W hD hys ⟨⟨hne,bT,bR⟩,hB1,hZ⟩ hK
   have cR:=bR.cell
   have fR:=bR.frozen
   have HV:=Lib.hid (workV_out (L:=L) hys hne)
   clear hne hys
   gi_wp2
   have hK':=(KeepsOthers.setCell W ⟨w.heap.size+1,0,none⟩ (.int .i64 (-1))).same D _ hK rfl
   refine ⟨by simp,.inl ⟨_,_,rfl,run_takeDeferred hK',?_⟩⟩
   have hc5:=cell_kept (bR.set (.int .i64 (-1))).cell (grownBy_putObj' _ D (.deferred none)) (fun r e=>by cases e;exact ⟨_,hK',rfl⟩)
   refine ⟨.int .i64 (-1),?_,by rw [HV.out],(hB1.setCell (p:=⟨w.heap.size+1,0,none⟩) (by simp) _).trans (belowK_b (w:=w) (Nat.le_refl _) _ D _ _ (by omega) hK' rfl rfl)⟩
   simp [results,Tryz.f173,go_sem,hc5]
  case stop =>
   rintro D cd pre W hD hpre ⟨⟨⟨rfl,hx⟩,bR⟩,hB1⟩ hK
   gi_wp2
   refine ⟨by simp,.inl ⟨_,_,rfl,run_takeDeferred hK,?_⟩⟩
   have hc5:=cell_kept bR.cell (grownBy_putObj' _ D (.deferred none)) (fun r e=>by cases e;exact ⟨_,hK,rfl⟩)
   refine ⟨.int .i64 (workV L t),?_,rfl,hB1.trans (belowK_b (w:=w) (Nat.le_refl _) W D _ _ (by omega) hK rfl rfl)⟩
   simp [results,Tryz.f173,go_sem,hc5]
 ·have hno:cOk L=false:=by simpa using h
  have HV:=Lib.hid (workV_no (t:=t) (momentOk_no hno))
  have H:=Lib.hid hno;clear h hno
  go_enter Tryz.func173,Tryz.ntmps173
  go_wp2_with fail
  refine (c_iCustomersOk L A c _ ((hA.below hb0).more hb0.size) hn).mono ?_
  rintro e w1 ⟨rfl,hb1⟩
  rw [H.out]
  have bR:=Boxed.new (w.alloc (.cells #[.int .i64 t] 3)) 3 (.int .i64 0)
  simp only [World.size_alloc] at bR
  have hbs:=hb1.size
  simp only [World.size_alloc] at hbs
  have bR1:Boxed w1 (w.heap.size+1) 3 (.int .i64 0):=(hb1.block _ (by simp)).trans bR
  have hbx:=hb0.trans (hb1.mono (by simp;omega))
  have cR:=bR1.cell
  have fR:=bR1.frozen
  have cS:=(bR1.set (.int .i64 (-1))).cell
  clear bR hb1 hb0
  go_wp2_with fail
  refine bodyPost_ret (v:=.int .i64 (-1)) (by simp [results,Tryz.f173,go_sem,cS]) rfl ?_
  exact ⟨by rw [HV.out],hbx.setCell (p:=⟨w.heap.size+1,0,none⟩) (by simp) _⟩
end
section
open Go.RowKit Go.Shelf
attribute [local go_sem] Oper.semAt_some
end
end Go.Proofs.YthpccmkagikhjaaGreatDoor

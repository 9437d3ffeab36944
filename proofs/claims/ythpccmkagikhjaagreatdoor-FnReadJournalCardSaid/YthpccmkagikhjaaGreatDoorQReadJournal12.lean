import Derived.Test.YthpccmkagikhjaaGreatDoorQReadJournal1
import Derived.Test.YthpccmkagikhjaaGreatDoorQReadJournal3
import Derived.Test.YthpccmkagikhjaaGreatDoorQReadJournal6
import Derived.Test.YthpccmkagikhjaaGreatDoorQReadJournal9
import Derived.RangeFuncNested
import Derived.RangeFuncBound
import Derived.RangeFuncCalls
import Derived.RangeFuncLeaves
import Derived.RangeFuncBox
import Derived.Shelf.Abstract
import Derived.Shelf.RegionOpen
import Derived.OwnWalkIn
import Derived.TacticsInMore
import Derived.LoopNIn
import Derived.LoopIn
namespace Go.Proofs.YthpccmkagikhjaaGreatDoor
set_option linter.unusedVariables false
open Go.RowKit
set_option maxRecDepth 8000
set_option maxHeartbeats 8000000
section
attribute [local go_sem ↓] Go.wp_at_zero Go.wp_at_succ
theorem c_withBehind (D:KV) (vn vp:Value) (a b:Int) (w:World) (hK:Ks w w.heap.size vn vp D) (hs:SmallK D) :
  Calls Tryz.prog 144 #[.agg #[vn,vp],.agg #[.int .i64 a,.int .i64 b]] w (MadeP D.now ⟨0,a,b⟩ w):=by
 obtain ⟨⟨An,cn,rfl,hcn,hN⟩,Ap,cp,rfl,-,-⟩:=hK
 have hs1:=hs.1
 have HM:=Lib.hid (made_0 D.now a b)
 have HC:=Lib.hid (fun (W:World) (hb:Below w.heap.size w W)=>c_cloneC D.now An cn W ((hN.below hb).more hb.size) (by omega))
 have hl:(D.now++[(a,b)]).length=D.now.length+1:=by simp
 have HKO:=Lib.hid (fun (g c2:Nat) (W:World) (hI:Cs W W.heap.size (some ⟨g,0,none⟩) (D.now++[(a,b)]))=>show Calls Tryz.prog 61 #[.slice (some ⟨g,0,none⟩) (D.now.length+1) c2] W fun e w'=>e=.returned (.bool (cOk (D.now++[(a,b)])))∧Below W.heap.size W w' from by
  have K:=c_iCustomersOk (D.now++[(a,b)]) (some ⟨g,0,none⟩) c2 W hI (by omega)
  rwa [hl] at K)
 obtain ⟨w0,hw0⟩:∃ w0,(w.alloc (.cells #[.slice An D.now.length cn,.slice Ap D.past.length cp] 31)).alloc (.cells #[.int .i64 a,.int .i64 b] 100)=w0:=⟨_,rfl⟩
 have hz0:w0.heap.size=w.heap.size+2:=by rw [<- hw0];simp
 have hb0:Below w.heap.size w w0:=by rw [<- hw0];exact ((Below.refl _ w).alloc (Nat.le_refl _) _).alloc (by simp) _
 have bD:w0.heap[w.heap.size]?=some (.cells #[.slice An D.now.length cn,.slice Ap D.past.length cp] 31 (0,0)):=by rw [<- hw0];exact (Below.heap_alloc _ _ _ (by simp)).trans (heap_alloc_new _ _)
 have bC:w0.heap[w.heap.size+1]?=some (.cells #[.int .i64 a,.int .i64 b] 100 (0,0)):=by rw [<- hw0];exact heap_newK _ _ _
 have HS:=Lib.hid (fun (W:World) (hb:Below w0.heap.size w0 W)=>show W.cell? ⟨w.heap.size,0,none⟩=some (.slice An D.now.length cn)∧W.cell? ⟨w.heap.size+1,0,none⟩=some (.int .i64 a)∧W.cell? ⟨w.heap.size+1,1,none⟩=some (.int .i64 b) from by
  have b1:=(hb.block w.heap.size (by omega)).trans bD
  have b2:=(hb.block (w.heap.size+1) (by omega)).trans bC
  exact ⟨cell_of_row _ w.heap.size 0 _ _ _ b1,cell_of_row _ (w.heap.size+1) 0 _ _ _ b2,cell_of_row _ (w.heap.size+1) 1 _ _ _ b2⟩)
 have hd0:Below w0.heap.size w0 w0.drew:=(Below.refl _ w0).drew
 have hd1:=hd0.alloc (Nat.le_refl _) (.cells #[.int .i64 a,.int .i64 b] 100)
 obtain ⟨c0,c1,c2⟩:=HS.out _ (Below.refl _ w0)
 have hb0':=Lib.hid (fun (W:World) (h:Below w0.heap.size w0 W)=>hb0.trans (h.mono (show w.heap.size<=w0.heap.size by omega)))
 have hle0:w.heap.size+2<=w0.heap.size:=by omega
 clear hN bD bC hz0
 go_enter Tryz.func144,Tryz.ntmps144
 go_wp2_with fail
 clear hw0
 go_region_held3 (fun W=>W.cell? ⟨w.heap.size,0,none⟩=some (.slice An D.now.length cn)∧W.cell? ⟨w.heap.size+1,0,none⟩=some (.int .i64 a)∧W.cell? ⟨w.heap.size+1,1,none⟩=some (.int .i64 b))
  (first
    | exact HS.out _ hx7
    | exact HS.out _ (hx6.alloc hx6.size _)
    | exact HS.out _ hx6
    | exact HS.out _ hd1
    | go_keep)
  (first
    | (go_at_call 104;refine (HC.out w0.drew (hb0'.out _ hd0)).mono ?_;rintro e w6 ⟨v6,rfl,o6,hb6⟩;obtain ⟨G6,c6,rfl,-,-⟩:=o6.formG;have hx6:Below w0.heap.size w0 w6:=hd0.trans hb6;have o6:CO w6 w0.heap.size (.slice G6 D.now.length c6) D.now:=o6)
    | (go_at_call 104;refine (HC.out _ (hb0'.out _ hd1)).mono ?_;rintro e w6 ⟨v6,rfl,o6,hb6⟩;obtain ⟨G6,c6,rfl,-,-⟩:=o6.formG;have bX:w6.heap[w0.heap.size]?=some (.cells #[.int .i64 a,.int .i64 b] 100 (0,0)):=(hb6.block w0.heap.size (by simp)).trans (heap_alloc_new w0.drew _);have hx6:Below w0.heap.size w0 w6:=hd1.trans (hb6.mono (by simp));have o6:CO w6 w0.heap.size (.slice G6 D.now.length c6) D.now:=o6.mono (by simp))
    | (refine step_C (by rfl) (.tmp 9) (.tmp 11) (by rfl) w0.heap.size (.slice G6 D.now.length c6) D.now a b w6.heap.size ?_ ?_ ?_ ?_ ?_ ?_ ?_;rfl;exact (o6.alloc _);rfl;exact (heap_alloc_new _ _);omega;(have:=hx6.size;simp;omega);intro g7 c7 w7 o7 hgr7 hb7;have hx7:Below w0.heap.size w0 w7:=(hx6.alloc hx6.size _).trans hb7)
    | (refine step_C (by rfl) (.tmp 9) (.tmp 11) (by rfl) w0.heap.size (.slice G6 D.now.length c6) D.now a b w0.heap.size ?_ ?_ ?_ ?_ ?_ ?_ ?_;rfl;exact o6;rfl;exact bX;omega;exact hx6.size;intro g7 c7 w7 o7 hgr7 hb7;have hx7:Below w0.heap.size w0 w7:=hx6.trans hb7)
    | fail)
 all_goals
  have hI:=o7.isOf.2
  have HK:=Lib.hid (HKO.out g7 c7 w7 hI)
  have HO7:=Lib.hid (o7.mono (show w.heap.size<=w0.heap.size by omega))
  have HB:=Lib.hid (hb0'.out _ hx7)
  clear hI o7 o6 hb6 hb7 hx7 hx6 hd0 hd1
  go_wp2_with fail
  refine HK.out.mono ?_
  rintro e w8 ⟨rfl,hb8⟩
  go_wp2_with fail
  go_ret2
  exact ⟨_,by rw [HM.out];rfl,fun _=>by rw [HM.out];exact HO7.out.below hb8 (Nat.le_refl _),HB.out.trans (hb8.mono HB.out.size)⟩
theorem c_withoutLast (D:KV) (vn vp:Value) (w:World) (hK:Ks w w.heap.size vn vp D) (hs:SmallK D) :
  Calls Tryz.prog 145 #[.agg #[vn,vp]] w (MadeP D.now ⟨1,0,0⟩ w):=by
 obtain ⟨⟨An,cn,rfl,hcn,hN⟩,Ap,cp,rfl,-,-⟩:=hK
 have hs1:=hs.1
 obtain ⟨w0,hw0,hz0,hb0,-,hS⟩:=one_box w (.slice An D.now.length cn) (.slice Ap D.past.length cp)
 obtain ⟨c0,c1⟩:=hS _ (Below.refl _ w0)
 clear hS hz0
 by_cases hp:0 < D.now.length
 ·have HM:=Lib.hid (made_go hp)
  have p1:((D.now.length:Int) == 0)=false:=beq_eq_false_iff_ne.2 (by omega)
  have ht:(D.now.take (D.now.length - 1)).length=D.now.length - 1:=by simp
  have HC:=Lib.hid (by have K:=c_cloneC (D.now.take (D.now.length - 1)) An cn w0 ((Cs_take (hN.below hb0) _).more hb0.size) (by rw [ht];omega);rw [ht] at K;exact K)
  have p2:(0:Int)<=(D.now.length:Int) - 1:=by omega
  have p3:((D.now.length:Int) - 1).toNat=D.now.length - 1:=by omega
  have p4:D.now.length - 1<=cn:=by omega
  go_enter Tryz.func145,Tryz.ntmps145
  go_wp2_with fail
  refine HC.out.mono ?_
  rintro e w1 ⟨v1,rfl,o1,hb1⟩
  go_wp2_with fail
  go_ret2
  exact ⟨_,by rw [HM.out];rfl,fun _=>by rw [HM.out];exact o1.mono hb0.size,hb0.trans (hb1.mono hb0.size)⟩
 ·have p1:D.now.length=0:=by omega
  have HM:=Lib.hid (show madeV D.now ⟨1,0,0⟩=(D.now,false) from made_no (by omega) (by omega) (by omega) (by omega))
  have p2:((D.now.length:Int) == 0)=true:=beq_iff_eq.2 (by omega)
  clear p1
  go_enter Tryz.func145,Tryz.ntmps145
  go_wp2_with fail
  go_ret2
  exact ⟨.slice none 0 0,by rw [HM.out];rfl,(fun h=>by rw [HM.out] at h;cases h),hb0⟩
theorem c_withLater (D:KV) (vn vp:Value) (a:Int) (w:World) (hK:Ks w w.heap.size vn vp D) (hs:SmallK D) :
  Calls Tryz.prog 147 #[.agg #[vn,vp],.int .i64 a] w (MadeP D.now ⟨3,a,0⟩ w):=by
 obtain ⟨⟨An,cn,rfl,hcn,hN⟩,Ap,cp,rfl,-,-⟩:=hK
 have hs1:=hs.1
 obtain ⟨w0,hw0,hz0,hb0,-,hS⟩:=one_box w (.slice An D.now.length cn) (.slice Ap D.past.length cp)
 obtain ⟨c0,c1⟩:=hS _ (Below.refl _ w0)
 clear hS hz0
 have HC:=Lib.hid (c_iLaterBy D.now An cn a w0 ((hN.below hb0).more hb0.size) (by omega))
 by_cases hp:0 < D.now.length
 ·have p1:((D.now.length:Int) == 0)=false:=beq_eq_false_iff_ne.2 (by omega)
  by_cases ha:a=0
  ·subst ha
   have HM:=Lib.hid (show madeV D.now ⟨3,0,0⟩=(D.now,false) from made_no (by omega) (by omega) (by omega) (by omega))
   go_enter Tryz.func147,Tryz.ntmps147
   go_wp2_with fail
   go_ret2
   exact ⟨.slice none 0 0,by rw [HM.out];rfl,(fun h=>by rw [HM.out] at h;cases h),hb0⟩
  ·have p2:(a == 0)=false:=beq_eq_false_iff_ne.2 ha
   have HM:=Lib.hid (show (madeV D.now ⟨3,a,0⟩).2=laterOk D.now a∧(laterOk D.now a=true->(madeV D.now ⟨3,a,0⟩).1=laterR D.now a) by
    by_cases h0:0 < a
    ·rw [made_3 h0 hp];exact ⟨rfl,fun _=>rfl⟩
    ·have e:laterOk D.now a=false:=by
      cases e:laterOk D.now a with
      | false=>rfl
      | true=>have:=(laterOk_parts e).2.1;omega
     rw [made_no (by omega) (by omega) (by omega) (by omega),e]
     exact ⟨rfl,fun h=>by cases h⟩)
   go_enter Tryz.func147,Tryz.ntmps147
   go_wp2_with fail
   refine HC.out.mono ?_
   rintro e w1 ⟨v1,rfl,o1,hb1⟩
   rw [laterV]
   go_wp2_with fail
   go_ret2
   exact ⟨_,by rw [HM.out.1];rfl,fun h=>by rw [HM.out.2 (by rw [<- HM.out.1];exact h)];exact o1.mono hb0.size,hb0.trans (hb1.mono hb0.size)⟩
 ·have p1:D.now.length=0:=by omega
  have HM:=Lib.hid (show madeV D.now ⟨3,a,0⟩=(D.now,false) from made_no (by omega) (by omega) (by omega) (by omega))
  have p2:((D.now.length:Int) == 0)=true:=beq_iff_eq.2 (by omega)
  clear p1
  go_enter Tryz.func147,Tryz.ntmps147
  go_wp2_with fail
  go_ret2
  exact ⟨.slice none 0 0,by rw [HM.out];rfl,(fun h=>by rw [HM.out] at h;cases h),hb0⟩
theorem c_changedBy (D:KV) (vn vp:Value) (k a b:Int) (w:World) (hK:Ks w w.heap.size vn vp D) (hs:SmallK D) (hf:formOk k a b=true) (h4:k≠4) :
  Calls Tryz.prog 110 #[.agg #[vn,vp],.agg #[.int .i64 k,.int .i64 a,.int .i64 b]] w (MadeP D.now ⟨k,a,b⟩ w):=by
 have hcs:k=0∨(k=1∧a=0∧b=0)∨(k=2∧b=0)∨(k=3∧b=0):=by
  simp only [formOk,Bool.or_eq_true,Bool.and_eq_true,decide_eq_true_eq] at hf
  omega
 clear hf h4
 have hbx:∀ x:Int,Below w.heap.size w ((w.alloc (.cells #[vn,vp] 31)).alloc (.cells #[.int .i64 x,.int .i64 a,.int .i64 b] 39)):=fun x=>((Below.refl _ w).alloc (Nat.le_refl _) _).alloc (by simp) _
 rcases hcs with rfl | ⟨rfl,rfl,rfl⟩ | ⟨rfl,rfl⟩ | ⟨rfl,rfl⟩
 ·have HC:=Lib.hid (fun (W:World) (hb:Below w.heap.size w W)=>c_withBehind D vn vp a b W ((hK.below hb).more hb.size) hs)
  clear hK hs
  go_enter Tryz.func110,Tryz.ntmps110
  go_wp2_with fail
  refine (HC.out _ (hbx _)).mono ?_
  rintro e w1 ⟨v1,rfl,o1,hb1⟩
  go_wp2_with fail
  go_ret2
  have hy:=hbx 0
  exact ⟨_,rfl,fun h=>(o1 h).mono hy.size,hy.trans (hb1.mono hy.size)⟩
 ·have HC:=Lib.hid (fun (W:World) (hb:Below w.heap.size w W)=>c_withoutLast D vn vp W ((hK.below hb).more hb.size) hs)
  clear hK hs
  go_enter Tryz.func110,Tryz.ntmps110
  go_wp2_with fail
  refine (HC.out _ (hbx _)).mono ?_
  rintro e w1 ⟨v1,rfl,o1,hb1⟩
  go_wp2_with fail
  go_ret2
  have hy:=hbx 1
  exact ⟨_,rfl,fun h=>(o1 h).mono hy.size,hy.trans (hb1.mono hy.size)⟩
 ·obtain ⟨⟨An,cn,rfl,hcn,hN⟩,-⟩:=hK
  have hs1:=hs.1
  have HC:=Lib.hid (fun (W:World) (hb:Below w.heap.size w W)=>c_iNeedingMore D.now An cn a W ((hN.below hb).more hb.size) (by omega))
  have HM:=Lib.hid (made_2 D.now a)
  clear hN hs
  go_enter Tryz.func110,Tryz.ntmps110
  go_wp2_with fail
  refine (HC.out _ (hbx _)).mono ?_
  rintro e w1 ⟨v1,rfl,o1,hb1⟩
  rw [laterV]
  go_wp2_with fail
  go_ret2
  have hy:=hbx 2
  exact ⟨_,by rw [HM.out];rfl,fun _=>by rw [HM.out];exact o1.mono hy.size,hy.trans (hb1.mono hy.size)⟩
 ·have HC:=Lib.hid (fun (W:World) (hb:Below w.heap.size w W)=>c_withLater D vn vp a W ((hK.below hb).more hb.size) hs)
  clear hK hs
  go_enter Tryz.func110,Tryz.ntmps110
  go_wp2_with fail
  refine (HC.out _ (hbx _)).mono ?_
  rintro e w1 ⟨v1,rfl,o1,hb1⟩
  go_wp2_with fail
  go_ret2
  have hy:=hbx 3
  exact ⟨_,rfl,fun h=>(o1 h).mono hy.size,hy.trans (hb1.mono hy.size)⟩
theorem run_maxA (a b:Int) (t:Array TypeId) (ty:TypeId) (w:World):(Builtin.max_ t ty #[.int .i64 a,.int .i64 b]).run Tryz.prog w=.ok (.int .i64 (max a b)) w:=by
 by_cases h:b > a
 ·rw [show max a b=b by omega];simp [Builtin.max_,Builtin.max2,h]
 ·rw [show max a b=a by omega];simp [Builtin.max_,Builtin.max2,h]
theorem css_all {w:World} {base g c:Nat} {hs:List Value} {Ls:List (List (Int×Int))} {n:Nat} (h:HdO w base (.slice (some ⟨g,0,none⟩) n c) hs) (hr:RdH w w.heap.size hs Ls):n=Ls.length∧Ls.length<=c∧Css w w.heap.size (some ⟨g,0,none⟩) Ls:=by
 obtain ⟨A,c',e,h1,h2,-⟩:=h.css hr
 injection e with e1 e2 e3
 subst e1 e2 e3
 exact ⟨rfl,h1,h2⟩
attribute [local go_sem ↓] run_maxA
theorem c_with (D:KV) (vn vp nv:Value) (w:World) (hK:Ks w w.heap.size vn vp D) (hs:SmallK D) (h8:D.past.length<=8) (hnv:∃ A n c,nv=.slice A n c) :
  Calls Tryz.prog 111 #[.agg #[vn,vp],nv] w fun e w'=>∃ up us,e=.returned (.agg #[nv,up])∧COO w' (w.heap.size+2) up (pushP D.past D.now) us∧Below w.heap.size w w':=by
 obtain ⟨⟨An,cn,rfl,hcn,hN⟩,Ap,cp,rfl,hcp,hP⟩:=hK
 obtain ⟨hs1,hs2,hs3⟩:=hs
 obtain ⟨A,nn,nc,rfl⟩:=hnv
 have hl:(D.past++[D.now]).length=D.past.length+1:=by simp
 have hl3:∀ k,k < (D.past++[D.now]).length->(LL (D.past++[D.now]) k).length<=100000000:=fun k hk=>by
  rw [hl] at hk
  rw [LL_app _ hk]
  split
  ·omega
  ·have:=hs3 k (by omega);omega
 obtain ⟨w0,hw0,hz0,hb0,bR,hS⟩:=two_boxes w (.slice An D.now.length cn) (.slice Ap D.past.length cp)
 have hle0:w.heap.size+2<=w0.heap.size:=by omega
 have HC:=Lib.hid (fun (W:World) (hb:Below w.heap.size w W)=>c_cloneCC D.past Ap cp w.heap.size W hb.size (hP.below hb) (by omega))
 have HS:=Lib.hid (fun (W:World) (hb:Below w0.heap.size w0 W)=>hS W (hb.mono (by omega)))
 have HB0:=Lib.hid (fun (W:World) (h:Below w0.heap.size w0 W)=>hb0.trans (h.mono (show w.heap.size<=w0.heap.size by omega)))
 have HN:=Lib.hid hN
 have HP2:=Lib.hid (fun (g c2:Nat) (W:World) (hI:Css W W.heap.size (some ⟨g,0,none⟩) (D.past++[D.now]))=>show Calls Tryz.prog 105 #[.slice (some ⟨g,0,none⟩) (D.past.length+1) c2] W fun e w'=>∃ v vs,e=.returned v∧COO w' W.heap.size v (D.past++[D.now]) vs∧Below W.heap.size W w' from by
  have K:=c_copiesOf (D.past++[D.now]) (some ⟨g,0,none⟩) c2 W hI (by omega) hl3
  rwa [hl] at K)
 have HP3:=Lib.hid (fun (g c2:Nat) (W:World) (hI:Css W W.heap.size (some ⟨g,0,none⟩) (D.past++[D.now]))=>show Calls Tryz.prog 105 #[.slice (some ⟨g,1,none⟩) D.past.length (c2 - 1)] W fun e w'=>∃ v vs,e=.returned v∧COO w' W.heap.size v ((D.past++[D.now]).drop 1) vs∧Below W.heap.size W w' from by
  have hd:((D.past++[D.now]).drop 1).length=D.past.length:=by rw [List.length_drop,hl];omega
  have K:=c_copiesOf ((D.past++[D.now]).drop 1) (some ⟨g,0+1,none⟩) (c2 - 1) W (hI.drop 1) (by omega) (fun k hk=>by
   have e:LL ((D.past++[D.now]).drop 1) k=LL (D.past++[D.now]) (1+k):=by simp [LL,List.getD_eq_getElem?_getD,Nat.add_comm]
   rw [e];exact hl3 (1+k) (by rw [hd] at hk;omega))
  rwa [hd] at K)
 have hd0:Below w0.heap.size w0 w0.drew:=(Below.refl _ w0).drew
 have hd1:=hd0.alloc (Nat.le_refl _) (.cells #[.slice An D.now.length cn] 28)
 obtain ⟨c0,c1⟩:=HS.out _ (Below.refl _ w0)
 clear hN hP hs3 hl3 hS hz0
 go_enter Tryz.func111,Tryz.ntmps111
 go_wp2_with fail
 clear hw0
 go_region_held3 (fun W=>W.cell? ⟨w.heap.size,0,none⟩=some (.slice An D.now.length cn)∧W.cell? ⟨w.heap.size,1,none⟩=some (.slice Ap D.past.length cp))
  (first
    | exact HS.out _ hx7
    | exact HS.out _ (hx6.alloc hx6.size _)
    | exact HS.out _ hx6
    | exact HS.out _ hd1
    | go_keep)
  (first
    | (go_at_call 148;refine (HC.out w0.drew (HB0.out _ hd0)).mono ?_;rintro e w6 ⟨v6,hs6,rfl,o6,hr6,hb6⟩;have hq6:=hr6.1;have HR6:RdH w6 w.heap.size hs6 D.past:=hr6.below (hb6.mono (by show w.heap.size<=w0.heap.size;omega));obtain ⟨G6,c6,rfl,-,-,-⟩:=o6.form;rw [hq6] at o6 ⊢;have hx6:Below w0.heap.size w0 w6:=hd0.trans hb6;have o6:HdO w6 w0.heap.size (.slice G6 D.past.length c6) hs6:=o6)
    | (go_at_call 148;refine (HC.out _ (HB0.out _ hd1)).mono ?_;rintro e w6 ⟨v6,hs6,rfl,o6,hr6,hb6⟩;have hq6:=hr6.1;have HR6:RdH w6 w.heap.size hs6 D.past:=hr6.below (hb6.mono (by simp;omega));have bX:w6.heap[w0.heap.size]?=some (.cells #[.slice An D.now.length cn] 28 (0,0)):=(hb6.block w0.heap.size (by simp)).trans (heap_alloc_new w0.drew _);obtain ⟨G6,c6,rfl,-,-,-⟩:=o6.form;rw [hq6] at o6 ⊢;have hx6:Below w0.heap.size w0 w6:=hd1.trans (hb6.mono (by simp));have o6:HdO w6 w0.heap.size (.slice G6 D.past.length c6) hs6:=o6.mono (by simp))
    | (refine step_H1 (by rfl) (.tmp 9) (.tmp 12) (by rfl) w0.heap.size (.slice G6 D.past.length c6) hs6 (.slice An D.now.length cn) w6.heap.size (D.past.length+1) ?_ ?_ ?_ ?_ ?_ ?_ ?_ ?_ ?_;rfl;exact (o6.alloc _);rfl;rfl;exact (heap_alloc_new _ _);omega;omega;(have:=hx6.size;simp;omega);intro g7 c7 w7 o7 hgr7 hb7;have h67:Below w0.heap.size w6 w7:=((Below.refl _ w6).alloc hx6.size _).trans hb7;have hx7:Below w0.heap.size w0 w7:=(hx6.alloc hx6.size _).trans hb7)
    | (refine step_H1 (by rfl) (.tmp 9) (.tmp 12) (by rfl) w0.heap.size (.slice G6 D.past.length c6) hs6 (.slice An D.now.length cn) w0.heap.size (D.past.length+1) ?_ ?_ ?_ ?_ ?_ ?_ ?_ ?_ ?_;rfl;exact o6;rfl;rfl;exact bX;omega;omega;exact hx6.size;intro g7 c7 w7 o7 hgr7 hb7;have h67:Below w0.heap.size w6 w7:=hb7;have hx7:Below w0.heap.size w0 w7:=hx6.trans hb7)
    | fail)
 all_goals
  have hw7:=HB0.out _ hx7
  obtain ⟨-,hc7,hI⟩:=css_all o7 (((HR6.below (h67.mono (by omega))).snoc hcn (HN.out.below hw7)).more hw7.size)
  rw [hl] at hc7
  have HI2:=Lib.hid (HP2.out g7 c7 w7 hI)
  have HI3:=Lib.hid (HP3.out g7 c7 w7 hI)
  have b7:=Lib.hid ((hx7.block (w.heap.size+1) (by omega)).trans bR)
  have HW:=Lib.hid hw7
  have HX:=Lib.hid (show w0.heap.size<=w7.heap.size from hx7.size)
  clear hI o7 o6 hb6 hb7 hx7 hx6 hd0 hd1 h67 HR6 hr6 hw7 c0 c1
  have q0:IntKind.i64.wrap ((D.past.length:Int)+1 - 8)=(D.past.length:Int)+1 - 8:=IntWalk.i64_in _ (by omega)
  by_cases hq:D.past.length+1<=8
  ·have q1:max (0:Int) ((D.past.length:Int)+1 - 8)=0:=by omega
   have HPu:=Lib.hid (pushP_no (P:=D.past) (L:=D.now) (by omega))
   go_wp2_with fail
   refine HI2.out.mono ?_
   rintro e w8 ⟨up,us,rfl,o8,hb8⟩
   obtain ⟨Gp,gp,rfl,-,-,-⟩:=o8.form
   rw [hl] at o8 ⊢
   have hX:=HX.out
   have b8:=(hb8.block (w.heap.size+1) (by omega)).trans b7.out
   have r0:=cell_of_row _ (w.heap.size+1) 0 _ _ _ b8
   have r1:=cell_of_row _ (w.heap.size+1) 1 _ _ _ b8
   have f0:w8.frozen? ⟨w.heap.size+1,0,none⟩=false:=unfrozen_of b8
   have f1:w8.frozen? ⟨w.heap.size+1,1,none⟩=false:=unfrozen_of b8
   go_wp2_with fail
   obtain ⟨k0,k1⟩:=put2 (.slice A nn nc) (.slice Gp (D.past.length+1) gp) b8
   refine bodyPost_ret (v:=.agg #[.slice A nn nc,.slice Gp (D.past.length+1) gp]) (by simp [results,Tryz.f111,go_sem,k0,k1]) rfl ?_
   refine ⟨_,us,rfl,?_,((HW.out.trans (hb8.mono (by omega))).setCell (p:=⟨w.heap.size+1,0,none⟩) (by simp) _).setCell (p:=⟨w.heap.size+1,1,none⟩) (by simp) _⟩
   rw [HPu.out]
   exact ((o8.mono (show w.heap.size+2<=w7.heap.size by omega)).keptLow (grown_set1 w8 (w.heap.size+1) 0 _) (by omega)).keptLow (grown_set1 _ (w.heap.size+1) 1 _) (by omega)
  ·have q1:max (0:Int) ((D.past.length:Int)+1 - 8)=1:=by omega
   have q2:1 < c7:=by omega
   have q3:¬ c7=1:=by omega
   have HPu:=Lib.hid (pushP_cut (P:=D.past) (L:=D.now) (by omega))
   go_wp2_with fail
   refine HI3.out.mono ?_
   rintro e w8 ⟨up,us,rfl,o8,hb8⟩
   obtain ⟨Gp,gp,rfl,-,-,-⟩:=o8.form
   rw [show ((D.past++[D.now]).drop 1).length=D.past.length by rw [List.length_drop,hl];omega] at o8 ⊢
   have hX:=HX.out
   have b8:=(hb8.block (w.heap.size+1) (by omega)).trans b7.out
   have r0:=cell_of_row _ (w.heap.size+1) 0 _ _ _ b8
   have r1:=cell_of_row _ (w.heap.size+1) 1 _ _ _ b8
   have f0:w8.frozen? ⟨w.heap.size+1,0,none⟩=false:=unfrozen_of b8
   have f1:w8.frozen? ⟨w.heap.size+1,1,none⟩=false:=unfrozen_of b8
   go_wp2_with fail
   obtain ⟨k0,k1⟩:=put2 (.slice A nn nc) (.slice Gp D.past.length gp) b8
   refine bodyPost_ret (v:=.agg #[.slice A nn nc,.slice Gp D.past.length gp]) (by simp [results,Tryz.f111,go_sem,k0,k1]) rfl ?_
   refine ⟨_,us,rfl,?_,((HW.out.trans (hb8.mono (by omega))).setCell (p:=⟨w.heap.size+1,0,none⟩) (by simp) _).setCell (p:=⟨w.heap.size+1,1,none⟩) (by simp) _⟩
   rw [HPu.out]
   exact ((o8.mono (show w.heap.size+2<=w7.heap.size by omega)).keptLow (grown_set1 w8 (w.heap.size+1) 0 _) (by omega)).keptLow (grown_set1 _ (w.heap.size+1) 1 _) (by omega)
end
section
attribute [local go_sem ↓] Go.wp_at_zero Go.wp_at_succ
theorem KO.putRes {w:World} {base R:Nat} {vn vp:Value} {D:KV} {vs:List Value} (h:KO w base vn vp D vs) (x y:Value) (hR:R < base) {B:Nat} (hB:B<=base):KO ((w.setCell ⟨R,0,none⟩ x).setCell ⟨R,1,none⟩ y) B vn vp D vs :=
 (h.keptLow (W2_grown w R x y) hR).mono hB
theorem below_put {w W:World} {B R:Nat} (h:Below B w W) (x y:Value) (hR:B<=R):Below B w ((W.setCell ⟨R,0,none⟩ x).setCell ⟨R,1,none⟩ y):=(h.setCell (p:=⟨R,0,none⟩) hR _).setCell (p:=⟨R,1,none⟩) hR _
theorem resBox {w:World} {R:Nat} {t:TypeId} {x y:Value} (h:w.heap[R]?=some (.cells #[x,y] t (0,0))):w.cell? ⟨R,0,none⟩=some x∧w.cell? ⟨R,1,none⟩=some y∧w.frozen? ⟨R,0,none⟩=false∧w.frozen? ⟨R,1,none⟩=false :=
 ⟨cell_of_row _ R 0 _ _ _ h,cell_of_row _ R 1 _ _ _ h,unfrozen_of h,unfrozen_of h⟩
def backV (D:KV):KV:=⟨LL D.past (D.past.length - 1),D.past.take (D.past.length - 1)⟩
theorem c_backNo (D:KV) (vn vp:Value) (w:World) (hK:Ks w w.heap.size vn vp D) (hs:SmallK D) (hp:D.past.length=0) :
  Calls Tryz.prog 109 #[.agg #[vn,vp]] w fun e w'=>∃ un up us,e=.returned (.tuple #[.agg #[un,up],.bool false])∧KO w' w.heap.size un up D us∧Below w.heap.size w w':=by
 have HC:=Lib.hid (fun (W:World) (hb:Below w.heap.size w W)=>c_copied D vn vp W ((hK.below hb).more hb.size) hs)
 obtain ⟨⟨An,cn,rfl,hcn,hN⟩,Ap,cp,rfl,hcp,hP⟩:=hK
 obtain ⟨w0,hw0,hz0,hb0,bR,hS⟩:=two_boxes w (.slice An D.now.length cn) (.slice Ap D.past.length cp)
 have hle0:w.heap.size+2<=w0.heap.size:=by omega
 obtain ⟨c0,c1⟩:=hS _ (Below.refl _ w0)
 have q1:IntKind.i64.wrap ((D.past.length:Int) - 1)=(D.past.length:Int) - 1:=IntWalk.i64_in _ (by omega)
 have q2:(D.past.length:Int) - 1 < 0:=by omega
 clear hz0 hS hs hp hN hP
 go_enter Tryz.func109,Tryz.ntmps109
 go_wp2_with fail
 refine (HC.out _ hb0).mono ?_
 rintro e w1 ⟨un,up,us,rfl,ko,hb1⟩
 obtain ⟨A5,c5,A6,c6,rfl,rfl⟩:=ko.slices
 have b1:=(hb1.block (w.heap.size+1) (by omega)).trans bR
 obtain ⟨r0,r1,f0,f1⟩:=resBox b1
 have HK:=Lib.hid ko
 clear c0 c1 ko hw0
 go_wp2_with fail
 obtain ⟨k0,k1⟩:=put2 (.slice A5 D.now.length c5) (.slice A6 D.past.length c6) b1
 refine bodyPost_ret (v:=.tuple #[.agg #[.slice A5 D.now.length c5,.slice A6 D.past.length c6],.bool false]) (by simp [results,Tryz.f109,go_sem,k0,k1]) rfl ?_
 exact ⟨_,_,us,rfl,HK.out.putRes _ _ (by omega) (by omega),below_put (hb0.trans (hb1.mono (by omega))) _ _ (by omega)⟩
theorem c_backYes (D:KV) (vn vp:Value) (w:World) (hK:Ks w w.heap.size vn vp D) (hs:SmallK D) (hp:0 < D.past.length) :
  Calls Tryz.prog 109 #[.agg #[vn,vp]] w fun e w'=>∃ un up us,e=.returned (.tuple #[.agg #[un,up],.bool true])∧KO w' w.heap.size un up (backV D) us∧Below w.heap.size w w':=by
 obtain ⟨⟨An,cn,rfl,hcn,hN⟩,Ap,cp,rfl,hcp,hP⟩:=hK
 obtain ⟨hs1,hs2,hs3⟩:=hs
 obtain ⟨b,off,rfl,hlb,hc⟩:=hP hp
 obtain ⟨Ak,ck,d1,hck,hAk⟩:=hc (D.past.length - 1) (by omega)
 obtain ⟨w0,hw0,hz0,hb0,bR,hS⟩:=two_boxes w (.slice An D.now.length cn) (.slice (some ⟨b,off,none⟩) D.past.length cp)
 have hle0:w.heap.size+2<=w0.heap.size:=by omega
 have HL:=Lib.hid (show (LL D.past (D.past.length - 1)).length<=1000000000 from by have:=hs3 (D.past.length - 1) (by omega);omega)
 have HC:=Lib.hid (fun (W:World) (hb:Below w.heap.size w W)=>c_cloneC (LL D.past (D.past.length - 1)) Ak ck W ((hAk.below hb).more hb.size) HL.out)
 have hdl:(D.past.take (D.past.length - 1)).length=D.past.length - 1:=by rw [List.length_take];omega
 have HP:=Lib.hid (fun (W:World) (hb:Below w.heap.size w W)=>show Calls Tryz.prog 105 #[.slice (some ⟨b,off,none⟩) (D.past.length - 1) cp] W fun e w'=>∃ v vs,e=.returned v∧COO w' W.heap.size v (D.past.take (D.past.length - 1)) vs∧Below W.heap.size W w' from by
  have K:=c_copiesOf (D.past.take (D.past.length - 1)) (some ⟨b,off,none⟩) cp W (((hP.take _).below hb).more hb.size) (by omega) (fun k hk=>by
   rw [hdl] at hk
   rw [LL_take hk]
   have:=hs3 k (by omega);omega)
  rwa [hdl] at K)
 have HS:=Lib.hid (fun (W:World) (hb:Below (w.heap.size+1) w0 W)=>show W.cell? ⟨w.heap.size,1,none⟩=some (.slice (some ⟨b,off,none⟩) D.past.length cp)∧W.cell? ⟨b,off+(D.past.length - 1),none⟩=some (.slice Ak (LL D.past (D.past.length - 1)).length ck) from
  ⟨(hS W hb).2,((hb0.trans (hb.mono (by omega))).cell (p:=⟨b,off+(D.past.length - 1),none⟩) hlb).trans d1⟩)
 have hd0:Below w0.heap.size w0 w0.drew:=(Below.refl _ w0).drew
 obtain ⟨c0,c1⟩:=hS _ (Below.refl _ w0)
 obtain ⟨-,c2⟩:=HS.out _ (Below.refl _ w0)
 have q1:IntKind.i64.wrap ((D.past.length:Int) - 1)=(D.past.length:Int) - 1:=IntWalk.i64_in _ (by omega)
 have q2:¬ (D.past.length:Int) - 1 < 0:=by omega
 have p1:(0:Int)<=(D.past.length:Int) - 1:=by omega
 have p2:(D.past.length:Int) - 1 < (D.past.length:Int):=by omega
 have p3:1<=(D.past.length:Int):=by omega
 have p4:((D.past.length:Int) - 1).toNat=D.past.length - 1:=by omega
 have p5:D.past.length - 1<=cp:=by omega
 have p6:(D.past.length:Int) - 1<=(cp:Int):=by omega
 clear hN hP hs3 hS hc hAk d1 hz0
 go_enter Tryz.func109,Tryz.ntmps109
 go_wp2_with fail
 clear hw0
 go_region_held3 (fun W=>W.cell? ⟨w.heap.size,1,none⟩=some (.slice (some ⟨b,off,none⟩) D.past.length cp)∧W.cell? ⟨b,off+(D.past.length - 1),none⟩=some (.slice Ak (LL D.past (D.past.length - 1)).length ck))
  (first
    | exact HS.out _ hy7
    | exact HS.out _ (hx6.mono (by omega))
    | exact HS.out _ (hx5.mono (by omega))
    | go_keep)
  (first
    | (go_at_call 104;refine (HC.out _ (hb0.trans (hd0.mono (by omega)))).mono ?_;rintro e w5 ⟨un,rfl,o5,hb5⟩;obtain ⟨Gn,gn,rfl,-,-⟩:=o5.formG;have hx5:Below w0.heap.size w0 w5:=hd0.trans hb5)
    | (go_at_call 105;refine (HP.out w5 (hb0.trans (hx5.mono (by omega)))).mono ?_;rintro e w6 ⟨up,us,rfl,o6,hb6⟩;obtain ⟨Gp,gp,rfl,-,-,-⟩:=o6.form;rw [hdl] at o6 ⊢;have hz5:=hx5.size;have hx6:Below w0.heap.size w0 w6:=hx5.trans (hb6.mono hz5);have b6:=(hx6.block (w.heap.size+1) (by omega)).trans bR;obtain ⟨r0,r1,f0,f1⟩:=resBox b6;have hy7:=below_put (hx6.mono (show w.heap.size+1<=w0.heap.size by omega)) (.slice Gn (LL D.past (D.past.length - 1)).length gn) (.slice Gp (D.past.length - 1) gp) (Nat.le_refl (w.heap.size+1)))
    | fail)
 have l5:=owns_lt o5
 have hz0d:w0.drew.heap.size=w0.heap.size:=rfl
 have o6':COO w6 w5.heap.size (.slice Gp (D.past.length - 1) gp) (backV D).past us:=o6
 have ko:KO w6 w0.drew.heap.size (.slice Gn (LL D.past (D.past.length - 1)).length gn) (.slice Gp (D.past.length - 1) gp) (backV D) us :=
  (KCO.mk (o5.below hb6 (Nat.le_refl _)) (o6'.mono hz5) (fun r hr e=>by have:=l5 r hr;have:=o6'.base r e;omega) (fun k hk r hr e=>by have:=l5 r e;have:=(o6'.inner_lt hk hr).2;omega)).ko
 have HK:=Lib.hid ko
 have HB:=Lib.hid hy7
 clear ko o6' o6 o5 hy7 hx6 hx5
 go_wp2_with fail
 obtain ⟨k0,k1⟩:=put2 (.slice Gn (LL D.past (D.past.length - 1)).length gn) (.slice Gp (D.past.length - 1) gp) b6
 refine bodyPost_ret (v:=.tuple #[.agg #[.slice Gn (LL D.past (D.past.length - 1)).length gn,.slice Gp (D.past.length - 1) gp],.bool true]) (by simp [results,Tryz.f109,go_sem,k0,k1]) rfl ?_
 exact ⟨_,_,us,rfl,HK.out.putRes _ _ (by omega) (by omega),hb0.trans (HB.out.mono (by omega))⟩
theorem do_formNo {D:KV} {k a b:Int} (h:deskOk D=true) (hf:formOk k a b=false):deskDo D ⟨k,a,b⟩=(D,false):=by
 simp only [formOk,Bool.or_eq_false_iff,Bool.and_eq_false_iff,decide_eq_false_iff_not] at hf
 refine do_not h (fun ⟨e,_⟩=>?_) (by rw [made_no (by omega) (by omega) (by omega) (by omega)])
 injection e with e1 e2 e3
 omega
theorem c_after12 (D:KV) (vn vp:Value) (k a b:Int) (w:World) (hK:Ks w w.heap.size vn vp D) (hok:deskOk D=true) :
  Calls Tryz.prog 52 #[.agg #[vn,vp],.agg #[.int .i64 k,.int .i64 a,.int .i64 b]] w (DoP D ⟨k,a,b⟩ w):=by
 have hs:=small_ok hok
 have h8:=(deskOk_parts hok).2.2
 have HCp:=Lib.hid (fun (W:World) (hb:Below w.heap.size w W)=>c_copied D vn vp W ((hK.below hb).more hb.size) hs)
 have HBk:=Lib.hid (fun (hp:0 < D.past.length) (W:World) (hb:Below w.heap.size w W)=>c_backYes D vn vp W ((hK.below hb).more hb.size) hs hp)
 have HBn:=Lib.hid (fun (hp:D.past.length=0) (W:World) (hb:Below w.heap.size w W)=>c_backNo D vn vp W ((hK.below hb).more hb.size) hs hp)
 have HCh:=Lib.hid (fun (hf:formOk k a b=true) (h4:k≠4) (W:World) (hb:Below w.heap.size w W)=>c_changedBy D vn vp k a b W ((hK.below hb).more hb.size) hs hf h4)
 have HWi:=Lib.hid (fun (nv:Value) (hnv:∃ A n c,nv=.slice A n c) (W:World) (hb:Below w.heap.size w W)=>c_with D vn vp nv W ((hK.below hb).more hb.size) hs h8 hnv)
 obtain ⟨⟨An,cn,rfl,hcn,hN⟩,Ap,cp,rfl,hcp,hP⟩:=hK
 obtain ⟨w0,hw0⟩:∃ w0,((w.alloc (.cells #[.slice An D.now.length cn,.slice Ap D.past.length cp] 31)).alloc (.cells #[.int .i64 k,.int .i64 a,.int .i64 b] 39)).alloc (.cells #[.slice none 0 0,.slice none 0 0] 31)=w0:=⟨_,rfl⟩
 have hz0:w0.heap.size=w.heap.size+3:=by rw [<- hw0];simp
 have hb0:Below w.heap.size w w0:=by rw [<- hw0];exact (((Below.refl _ w).alloc (Nat.le_refl _) _).alloc (by simp) _).alloc (by simp;omega) _
 have bD:w0.heap[w.heap.size]?=some (.cells #[.slice An D.now.length cn,.slice Ap D.past.length cp] 31 (0,0)):=by rw [<- hw0];exact (Below.heap_alloc _ _ _ (by simp;omega)).trans ((Below.heap_alloc _ _ _ (by simp)).trans (heap_alloc_new _ _))
 have bE:w0.heap[w.heap.size+1]?=some (.cells #[.int .i64 k,.int .i64 a,.int .i64 b] 39 (0,0)):=by rw [<- hw0];exact (Below.heap_alloc _ _ _ (by simp)).trans (heap_newK _ _ _)
 have bR:w0.heap[w.heap.size+2]?=some (.cells #[.slice none 0 0,.slice none 0 0] 31 (0,0)):=by
  rw [<- hw0]
  have h:=heap_newK (w.alloc (.cells #[.slice An D.now.length cn,.slice Ap D.past.length cp] 31)) (.cells #[.int .i64 k,.int .i64 a,.int .i64 b] 39) (.cells #[.slice none 0 0,.slice none 0 0] 31)
  rwa [show (w.alloc (.cells #[.slice An D.now.length cn,.slice Ap D.past.length cp] 31)).heap.size+1=w.heap.size+2 by simp] at h
 have HS:=Lib.hid (fun (W:World) (hb:Below w0.heap.size w0 W)=>show W.cell? ⟨w.heap.size,0,none⟩=some (.slice An D.now.length cn)∧W.cell? ⟨w.heap.size,1,none⟩=some (.slice Ap D.past.length cp)∧W.cell? ⟨w.heap.size+1,0,none⟩=some (.int .i64 k)∧W.cell? ⟨w.heap.size+1,1,none⟩=some (.int .i64 a)∧W.cell? ⟨w.heap.size+1,2,none⟩=some (.int .i64 b) from by
  have b1:=(hb.block w.heap.size (by omega)).trans bD
  have b2:=(hb.block (w.heap.size+1) (by omega)).trans bE
  exact ⟨cell_of_row _ w.heap.size 0 _ _ _ b1,cell_of_row _ w.heap.size 1 _ _ _ b1,cell_of_row _ (w.heap.size+1) 0 _ _ _ b2,cell_of_row _ (w.heap.size+1) 1 _ _ _ b2,cell_of_row _ (w.heap.size+1) 2 _ _ _ b2⟩)
 have hle0:w.heap.size+3<=w0.heap.size:=by omega
 have HB0:=Lib.hid (fun (W:World) (h:Below w0.heap.size w0 W)=>hb0.trans (h.mono (show w.heap.size<=w0.heap.size by omega)))
 have HR:=Lib.hid (fun (W:World) (h:Below w0.heap.size w0 W)=>(h.block (w.heap.size+2) (by omega)).trans bR)
 obtain ⟨c0,c1,c2,c3,c4⟩:=HS.out _ (Below.refl _ w0)
 clear hN hP hs bD bE bR hz0
 cases hf:formOk k a b with
 | false =>
  have HV:=Lib.hid (do_formNo hok hf)
  have HF:=Lib.hid hf
  clear hf hok
  go_enter Tryz.func52,Tryz.ntmps52
  go_wp2_with fail
  refine (c_form _ _ _ _).mono ?_
  rintro e w1 ⟨⟨f,rfl,-,W,n,rfl⟩,hb1⟩
  rw [HF.out]
  have hx1:=hb1.alloc hb1.size (.cells #[.string W,.int .i64 n] 82)
  obtain ⟨d0,d1,-⟩:=HS.out _ hx1
  clear c0 c1 c2 c3 c4 hw0
  go_wp2_with fail
  refine (HCp.out _ (HB0.out _ hx1)).mono ?_
  rintro e w2 ⟨un,up,us,rfl,ko,hb2⟩
  obtain ⟨A5,c5,A6,c6,rfl,rfl⟩:=ko.slices
  have hx2:=hx1.trans (hb2.mono hx1.size)
  have b2:=HR.out _ hx2
  obtain ⟨r0,r1,f0,f1⟩:=resBox b2
  have HK:=Lib.hid ko
  have hsz:=hx1.size
  clear d0 d1 ko
  go_wp2_with fail
  obtain ⟨k0,k1⟩:=put2 (.slice A5 D.now.length c5) (.slice A6 D.past.length c6) b2
  refine bodyPost_ret (v:=.tuple #[.agg #[.slice A5 D.now.length c5,.slice A6 D.past.length c6],.bool false]) (by simp [results,Tryz.f52,go_sem,k0,k1]) rfl ?_
  exact ⟨_,_,us,by rw [HV.out],by rw [HV.out];exact HK.out.putRes _ _ (by omega) (by omega),below_put (HB0.out _ hx2) _ _ (by omega)⟩
 | true =>
  by_cases h4:k=4
  ·subst h4
   obtain ⟨rfl,rfl⟩:a=0∧b=0:=by
    simp only [formOk,Bool.or_eq_true,Bool.and_eq_true,decide_eq_true_eq] at hf
    omega
   have HF:=Lib.hid hf
   clear hf
   by_cases hp:0 < D.past.length
   ·have HV:=Lib.hid (show deskDo D ⟨4,0,0⟩=(backV D,true) from do_back hok hp)
    have HBy:=Lib.hid (HBk.out hp)
    clear hok hp
    go_enter Tryz.func52,Tryz.ntmps52
    go_wp2_with fail
    refine (c_form _ _ _ _).mono ?_
    rintro e w1 ⟨⟨f,rfl,-,W,n,rfl⟩,hb1⟩
    rw [HF.out]
    have hx1:=hb1.alloc hb1.size (.cells #[.string W,.int .i64 n] 82)
    obtain ⟨d0,d1,d2,d3,d4⟩:=HS.out _ hx1
    clear c0 c1 c2 c3 c4 hw0
    go_wp2_with fail
    refine (HBy.out _ (HB0.out _ hx1)).mono ?_
    rintro e w2 ⟨un,up,us,rfl,ko,hb2⟩
    obtain ⟨A5,c5,A6,c6,rfl,rfl⟩:=ko.slices
    have hx2:=hx1.trans (hb2.mono hx1.size)
    have b2:=HR.out _ hx2
    obtain ⟨r0,r1,f0,f1⟩:=resBox b2
    have HK:=Lib.hid ko
    have hsz:=hx1.size
    clear d0 d1 d2 d3 d4 ko
    go_wp2_with fail
    obtain ⟨k0,k1⟩:=put2 (.slice A5 (backV D).now.length c5) (.slice A6 (backV D).past.length c6) b2
    refine bodyPost_ret (v:=.tuple #[.agg #[.slice A5 (backV D).now.length c5,.slice A6 (backV D).past.length c6],.bool true]) (by simp [results,Tryz.f52,go_sem,k0,k1]) rfl ?_
    exact ⟨_,_,us,by rw [HV.out],by rw [HV.out];exact HK.out.putRes _ _ (by omega) (by omega),below_put (HB0.out _ hx2) _ _ (by omega)⟩
   ·have hp0:D.past.length=0:=by omega
    have HV:=Lib.hid (show deskDo D ⟨4,0,0⟩=(D,false) from do_not hok (fun h=>hp h.2) (by rw [made_no (by omega) (by omega) (by omega) (by omega)]))
    have HBy:=Lib.hid (HBn.out hp0)
    clear hok hp hp0
    go_enter Tryz.func52,Tryz.ntmps52
    go_wp2_with fail
    refine (c_form _ _ _ _).mono ?_
    rintro e w1 ⟨⟨f,rfl,-,W,n,rfl⟩,hb1⟩
    rw [HF.out]
    have hx1:=hb1.alloc hb1.size (.cells #[.string W,.int .i64 n] 82)
    obtain ⟨d0,d1,d2,d3,d4⟩:=HS.out _ hx1
    clear c0 c1 c2 c3 c4 hw0
    go_wp2_with fail
    refine (HBy.out _ (HB0.out _ hx1)).mono ?_
    rintro e w2 ⟨un,up,us,rfl,ko,hb2⟩
    obtain ⟨A5,c5,A6,c6,rfl,rfl⟩:=ko.slices
    have hx2:=hx1.trans (hb2.mono hx1.size)
    have b2:=HR.out _ hx2
    obtain ⟨r0,r1,f0,f1⟩:=resBox b2
    have HK:=Lib.hid ko
    have hsz:=hx1.size
    clear d0 d1 d2 d3 d4 ko
    go_wp2_with fail
    obtain ⟨k0,k1⟩:=put2 (.slice A5 D.now.length c5) (.slice A6 D.past.length c6) b2
    refine bodyPost_ret (v:=.tuple #[.agg #[.slice A5 D.now.length c5,.slice A6 D.past.length c6],.bool false]) (by simp [results,Tryz.f52,go_sem,k0,k1]) rfl ?_
    exact ⟨_,_,us,by rw [HV.out],by rw [HV.out];exact HK.out.putRes _ _ (by omega) (by omega),below_put (HB0.out _ hx2) _ _ (by omega)⟩
  ·have p4:(k == 4)=false:=beq_eq_false_iff_ne.2 h4
   have HF:=Lib.hid hf
   have HCy:=Lib.hid (HCh.out hf h4)
   have hnb:¬ ((⟨k,a,b⟩:DV)=⟨4,0,0⟩∧0 < D.past.length):=fun h=>by injection h.1 with e1;exact h4 e1
   clear hf HCh
   cases hm:(madeV D.now ⟨k,a,b⟩).2 with
   | false =>
    have HV:=Lib.hid (do_not hok hnb hm)
    have HM:=Lib.hid hm
    clear hok hnb hm h4
    go_enter Tryz.func52,Tryz.ntmps52
    go_wp2_with fail
    refine (c_form _ _ _ _).mono ?_
    rintro e w1 ⟨⟨f,rfl,-,W,n,rfl⟩,hb1⟩
    rw [HF.out]
    have hx1:=hb1.alloc hb1.size (.cells #[.string W,.int .i64 n] 82)
    obtain ⟨d0,d1,d2,d3,d4⟩:=HS.out _ hx1
    clear c0 c1 c2 c3 c4 hw0
    go_wp2_with fail
    refine (HCy.out _ (HB0.out _ hx1)).mono ?_
    rintro e w2 ⟨v2,rfl,-,hb2⟩
    rw [HM.out]
    have hx2:=hx1.trans (hb2.mono hx1.size)
    obtain ⟨g0,g1,-⟩:=HS.out _ hx2
    clear d0 d1 d2 d3 d4
    go_wp2_with fail
    refine (HCp.out _ (HB0.out _ hx2)).mono ?_
    rintro e w3 ⟨un,up,us,rfl,ko,hb3⟩
    obtain ⟨A5,c5,A6,c6,rfl,rfl⟩:=ko.slices
    have hx3:=hx2.trans (hb3.mono hx2.size)
    have b3:=HR.out _ hx3
    obtain ⟨r0,r1,f0,f1⟩:=resBox b3
    have HK:=Lib.hid ko
    have hsz:=hx2.size
    clear g0 g1 ko
    go_wp2_with fail
    obtain ⟨k0,k1⟩:=put2 (.slice A5 D.now.length c5) (.slice A6 D.past.length c6) b3
    refine bodyPost_ret (v:=.tuple #[.agg #[.slice A5 D.now.length c5,.slice A6 D.past.length c6],.bool false]) (by simp [results,Tryz.f52,go_sem,k0,k1]) rfl ?_
    exact ⟨_,_,us,by rw [HV.out],by rw [HV.out];exact HK.out.putRes _ _ (by omega) (by omega),below_put (HB0.out _ hx3) _ _ (by omega)⟩
   | true =>
    have HV:=Lib.hid (do_made hok hnb hm)
    have HM:=Lib.hid hm
    clear hok hnb hm h4
    go_enter Tryz.func52,Tryz.ntmps52
    go_wp2_with fail
    refine (c_form _ _ _ _).mono ?_
    rintro e w1 ⟨⟨f,rfl,-,W,n,rfl⟩,hb1⟩
    rw [HF.out]
    have hx1:=hb1.alloc hb1.size (.cells #[.string W,.int .i64 n] 82)
    obtain ⟨d0,d1,d2,d3,d4⟩:=HS.out _ hx1
    clear c0 c1 c2 c3 c4 hw0
    go_wp2_with fail
    refine (HCy.out _ (HB0.out _ hx1)).mono ?_
    rintro e w2 ⟨v2,rfl,o2,hb2⟩
    have o2:=o2 HM.out
    rw [HM.out]
    generalize hM:(madeV D.now ⟨k,a,b⟩).1=M at *
    obtain ⟨Gm,gm,rfl,-,-⟩:=o2.formG
    have hx2:=hx1.trans (hb2.mono hx1.size)
    obtain ⟨g0,g1,-⟩:=HS.out _ hx2
    clear d0 d1 d2 d3 d4
    go_wp2_with fail
    refine (HWi.out _ ⟨_,_,_,rfl⟩ _ (HB0.out _ hx2)).mono ?_
    rintro e w3 ⟨up,us,rfl,o3,hb3⟩
    obtain ⟨Gp,gp,rfl,-,-,-⟩:=o3.form
    have hx3:=hx2.trans (hb3.mono hx2.size)
    have b3:=HR.out _ hx3
    obtain ⟨r0,r1,f0,f1⟩:=resBox b3
    have hsz:=hx1.size
    have hsz2:=hx2.size
    have l2:=owns_lt o2
    have o3':COO w3 (w2.heap.size+2) (.slice Gp (pushP D.past D.now).length gp) (⟨M,pushP D.past D.now⟩:KV).past us:=o3
    have HK:=Lib.hid (show KO w3 w0.heap.size (.slice Gm M.length gm) (.slice Gp (pushP D.past D.now).length gp) ⟨M,pushP D.past D.now⟩ us from
     (KCO.mk ((o2.below hb3 (Nat.le_refl _)).mono hsz) (o3'.mono (by omega)) (fun r hr e=>by have:=l2 r hr;have:=o3'.base r e;omega) (fun j hj r hr e=>by have:=l2 r e;have:=(o3'.inner_lt hj hr).2;omega)).ko)
    clear g0 g1 o2 o3 o3' l2
    go_wp2_with fail
    obtain ⟨k0,k1⟩:=put2 (.slice Gm M.length gm) (.slice Gp (pushP D.past D.now).length gp) b3
    refine bodyPost_ret (v:=.tuple #[.agg #[.slice Gm M.length gm,.slice Gp (pushP D.past D.now).length gp],.bool true]) (by simp [results,Tryz.f52,go_sem,k0,k1]) rfl ?_
    exact ⟨_,_,us,by rw [HV.out],by rw [HV.out];exact HK.out.putRes _ _ (by omega) (by omega),below_put (HB0.out _ hx3) _ _ (by omega)⟩
theorem c_iDeskRun (D:KV) (ds:List DV) (vn vp:Value) (A:Option Addr) (c:Nat) (w:World) (hK:Ks w w.heap.size vn vp D) (hs:SmallK D) (hE:Ds3 w w.heap.size A ds) (hcap:ds.length<=c) (hn:ds.length<=140737488351232) :
  Calls Tryz.prog 16 #[.agg #[vn,vp],.slice A ds.length c] w fun e w'=>∃ un up us,e=.returned (.tuple #[.agg #[un,up],.int .i64 (deskRun D ds).2])∧KO w' w.heap.size un up (deskRun D ds).1 us∧Below w.heap.size w w':=by
 have HD:=Lib.hid (fun (W:World) (hb:Below w.heap.size w W)=>c_iDeskOk D vn vp W ((hK.below hb).more hb.size) hs)
 have HCp:=Lib.hid (fun (W:World) (hb:Below w.heap.size w W)=>c_copied D vn vp W ((hK.below hb).more hb.size) hs)
 obtain ⟨⟨An,cn,rfl,hcn,hN⟩,Ap,cp,rfl,hcp,hP⟩:=hK
 obtain ⟨w0,hw0,hz0,hb0,bR,hS⟩:=two_boxes w (.slice An D.now.length cn) (.slice Ap D.past.length cp)
 have hle0:w.heap.size+2<=w0.heap.size:=by omega
 have HS:=Lib.hid (fun (W:World) (hb:Below w0.heap.size w0 W)=>hS W (hb.mono (by omega)))
 have HB0:=Lib.hid (fun (W:World) (h:Below w0.heap.size w0 W)=>hb0.trans (h.mono (show w.heap.size<=w0.heap.size by omega)))
 have HR:=Lib.hid (fun (W:World) (h:Below w0.heap.size w0 W)=>(h.block (w.heap.size+1) (by omega)).trans bR)
 obtain ⟨c0,c1⟩:=HS.out _ (Below.refl _ w0)
 clear hN hP hs hS bR hz0
 cases ho:deskOk D with
 | false =>
  have H:=Lib.hid ho
  have HV:=Lib.hid (deskRun_no (D:=D) (ds:=ds) (by simp [runOk,ho]))
  clear ho
  go_enter Tryz.func16,Tryz.ntmps16
  go_wp2_with fail
  refine (HD.out _ hb0).mono ?_
  rintro e w1 ⟨rfl,hb1⟩
  rw [H.out]
  have b2:=HR.out _ hb1
  obtain ⟨r0,r1,f0,f1⟩:=resBox b2
  clear c0 c1 hw0
  go_wp2_with fail
  obtain ⟨k0,k1⟩:=put2 (.slice none 0 0) (.slice none 0 0) b2
  refine bodyPost_ret (v:=.tuple #[.agg #[.slice none 0 0,.slice none 0 0],.int .i64 0]) (by simp [results,Tryz.f16,go_sem,k0,k1]) rfl ?_
  exact ⟨_,_,[],by rw [HV.out],by rw [HV.out];exact KO.zero _ _,below_put (HB0.out _ hb1) _ _ (by omega)⟩
 | true =>
  have H:=Lib.hid ho
  by_cases h40:ds.length<=40
  ·have p40:¬ (40:Int) < (ds.length:Int):=by omega
   have HV:=Lib.hid (show deskRun D ds=runTo D ds from if_pos (by simp [runOk,ho,h40]))
   have HE:=Lib.hid hE
   have HRt:=Lib.hid (fun k (hk:k < ds.length)=>runTo_at D hk)
   have HBd:=Lib.hid (fun k=>runTo_bd D (ds.take k))
   have HOk:=Lib.hid (fun k=>runTo_ok ho (ds.take k))
   clear ho hE
   go_enter Tryz.func16,Tryz.ntmps16
   go_wp2_with fail
   refine (HD.out _ hb0).mono ?_
   rintro e w1 ⟨rfl,hb1⟩
   rw [H.out]
   obtain ⟨d0,d1⟩:=HS.out _ hb1
   clear c0 c1 hw0
   go_wp2_with fail
   refine (HCp.out _ (HB0.out _ hb1)).mono ?_
   rintro e w2 ⟨un,up,us,rfl,ko,hb2⟩
   have hz1:=hb1.size
   have hz2:=hb2.size
   have hx2:=hb1.trans (hb2.mono hz1)
   obtain ⟨Gn,gn,Gp,gp,rfl,rfl⟩:=ko.slices
   obtain ⟨w3,hw3⟩:∃ w3,w2.alloc (.cells #[.slice Gn D.now.length gn,.slice Gp D.past.length gp] 31)=w3:=⟨_,rfl⟩
   have hz3:w2.heap.size < w3.heap.size:=by rw [<- hw3];simp
   have hb3:Below w2.heap.size w2 w3:=by rw [<- hw3];exact (Below.refl _ w2).alloc (Nat.le_refl _) _
   have bO:w3.heap[w2.heap.size]?=some (.cells #[.slice Gn D.now.length gn,.slice Gp D.past.length gp] 31 (0,0)):=by rw [<- hw3];exact heap_alloc_new _ _
   have hx3:=hx2.trans (hb3.mono (by omega))
   have ko3:KO w3 w1.heap.size (.slice Gn D.now.length gn) (.slice Gp D.past.length gp) D us:=ko.below hb3 (Nat.le_refl _)
   clear d0 d1 ko hb3
   go_wp2_with fail
   clear hw3
   go_loopw [7,25] (fun n i wr=>∃ (k:Nat) (xn xp:Value) (xs:List Value),k<=ds.length∧i=.int .i64 (k:Int)∧n=.int .i64 (runTo D (ds.take k)).2∧wr.heap[w2.heap.size]?=some (.cells #[xn,xp] 31 (0,0))∧KO wr w1.heap.size xn xp (runTo D (ds.take k)).1 xs∧Below w2.heap.size w3 wr) (fun _ i _=>ds.length - (intOf i).toNat)
   case atStart=>exact ⟨0,_,_,_,by omega,rfl,rfl,bO,ko3,Below.refl _ _⟩
   case round =>
    clear ko3 bO
    obtain ⟨k,xn,xp,xs,hk,rfl,rfl,bO,ko,hb⟩:=hrel
    have hsz:=hb.size
    have hOl:=(Array.getElem?_eq_some_iff.1 bO).1
    have p1:(0:Int)<=(k:Int):=by omega
    obtain ⟨X1,x1,X2,x2,rfl,rfl⟩:=ko.slices
    have q5:=cell_of_row _ w2.heap.size 0 _ _ _ bO
    have q6:=cell_of_row _ w2.heap.size 1 _ _ _ bO
    have hbw:=hb0.trans ((hx3.trans (hb.mono (by omega))).mono (show w.heap.size<=w0.heap.size by omega))
    have hbd:=HBd.out k
    have hok:=HOk.out k
    have hRk:=HRt.out k
    generalize hrk:runTo D (ds.take k)=rk at *
    have HRK:=Lib.hid hrk
    clear hrk
    obtain ⟨Dk,nk⟩:=rk
    simp only at ko hbd hok hRk bO q5 q6
    by_cases hlt:k < ds.length
    ·have p2:(k:Int) < (ds.length:Int):=by omega
     have hRk:=hRk hlt
     obtain ⟨b,off,rfl,hlb,hcc⟩:=HE.out (by omega)
     obtain ⟨y0,y1,y2⟩:=hcc k hlt
     have e0:=(hbw.cell (p:=⟨b,off+k * 3,none⟩) hlb).trans y0
     have e1:=(hbw.cell (p:=⟨b,off+k * 3+1,none⟩) hlb).trans y1
     have e2:=(hbw.cell (p:=⟨b,off+k * 3+2,none⟩) hlb).trans y2
     clear hcc y0 y1 y2
     obtain ⟨⟨dk,da,db⟩,hd⟩:∃ d,ZD ds k=d:=⟨_,rfl⟩
     rw [hd] at e0 e1 e2 hRk
     have HRk:=Lib.hid hRk
     have HDo:=Lib.hid (fun (W:World) (hbW:Below wr.heap.size wr W)=>c_after12 Dk (.slice X1 Dk.now.length x1) (.slice X2 Dk.past.length x2) dk da db W ((ko.ks.below hbW).more hbW.size) hok)
     have hlen40:nk<=1000:=by have:=hbd.2;rw [List.length_take] at this;omega
     have hn0:0<=nk:=hbd.1
     have HKo:=Lib.hid ko
     have HSO:=Lib.hid (fun (W:World) (hbW:Below wr.heap.size wr W)=>show W.heap[w2.heap.size]?=some (.cells #[.slice X1 Dk.now.length x1,.slice X2 Dk.past.length x2] 31 (0,0)) from (hbW.block w2.heap.size hOl).trans bO)
     have q7:IntKind.i64.wrap (nk+1)=nk+1:=IntWalk.i64_in _ (by omega)
     have hbA:Below wr.heap.size wr (wr.alloc (.cells #[.int .i64 dk,.int .i64 da,.int .i64 db] 39)):=(Below.refl _ wr).alloc (Nat.le_refl _) _
     have g5:(wr.alloc (.cells #[.int .i64 dk,.int .i64 da,.int .i64 db] 39)).cell? ⟨w2.heap.size,0,none⟩=some (.slice X1 Dk.now.length x1):=cell_of_row _ w2.heap.size 0 _ _ _ (HSO.out _ hbA)
     have g6:(wr.alloc (.cells #[.int .i64 dk,.int .i64 da,.int .i64 db] 39)).cell? ⟨w2.heap.size,1,none⟩=some (.slice X2 Dk.past.length x2):=cell_of_row _ w2.heap.size 1 _ _ _ (HSO.out _ hbA)
     clear hRk hd hbd ko bO q5 q6 hok
     cases hdo:(deskDo Dk ⟨dk,da,db⟩).2 with
     | false =>
      have HDn:=Lib.hid hdo
      have HN:=Lib.hid (show runTo D (ds.take (k+1))=(Dk,nk) by rw [HRk.out,hdo];rfl)
      clear hdo
      go_wp2_with fail
      refine (HDo.out _ hbA).mono ?_
      rintro e w6 ⟨yn,yp,ys,rfl,o6,hb6⟩
      obtain ⟨A5,c5,A6,c6,rfl,rfl⟩:=o6.slices
      rw [HDn.out]
      generalize (deskDo Dk ⟨dk,da,db⟩).1=M at *
      have hx6:=hbA.trans (hb6.mono hbA.size)
      have hx7:=hx6.alloc hx6.size (.cells #[.slice A5 M.now.length c5,.slice A6 M.past.length c6] 31)
      clear e0 e1 e2 g5 g6
      go_wp2_with fail
      go_roundw
      case rel=>exact ⟨k+1,_,_,xs,by omega,by go_num,by rw [HN.out],HSO.out _ hx7,by rw [HN.out];exact HKo.out.below hx7 (Nat.le_refl _),hb.trans (hx7.mono (by omega))⟩
      case measure=>simp [intOf];omega
     | true =>
      have HDn:=Lib.hid hdo
      have HN:=Lib.hid (show runTo D (ds.take (k+1))=((deskDo Dk ⟨dk,da,db⟩).1,nk+1) by rw [HRk.out,hdo];rfl)
      clear hdo
      go_wp2_with fail
      refine (HDo.out _ hbA).mono ?_
      rintro e w6 ⟨yn,yp,ys,rfl,o6,hb6⟩
      obtain ⟨A5,c5,A6,c6,rfl,rfl⟩:=o6.slices
      rw [HDn.out]
      generalize (deskDo Dk ⟨dk,da,db⟩).1=M at *
      have hx6:=hbA.trans (hb6.mono hbA.size)
      obtain ⟨w7,hw7⟩:∃ w7,w6.alloc (.cells #[.slice A5 M.now.length c5,.slice A6 M.past.length c6] 31)=w7:=⟨_,rfl⟩
      have hb67:Below w6.heap.size w6 w7:=by rw [<- hw7];exact (Below.refl _ w6).alloc (Nat.le_refl _) _
      have bN:w7.heap[w6.heap.size]?=some (.cells #[.slice A5 M.now.length c5,.slice A6 M.past.length c6] 31 (0,0)):=by rw [<- hw7];exact heap_alloc_new _ _
      have hx7:=hx6.trans (hb67.mono hx6.size)
      have hz6:=hx6.size
      have bO7:=HSO.out _ hx7
      obtain ⟨r0,r1,f0,f1⟩:=resBox bO7
      have n0:=cell_of_row _ w6.heap.size 0 _ _ _ bN
      have n1:=cell_of_row _ w6.heap.size 1 _ _ _ bN
      have HK7:=Lib.hid (show KO w7 (wr.alloc (.cells #[.int .i64 dk,.int .i64 da,.int .i64 db] 39)).heap.size (.slice A5 M.now.length c5) (.slice A6 M.past.length c6) M ys from o6.below hb67 (Nat.le_refl _))
      have HX7:=Lib.hid hx7
      have HO7:=Lib.hid bO7
      have hzA:wr.heap.size<=(wr.alloc (.cells #[.int .i64 dk,.int .i64 da,.int .i64 db] 39)).heap.size:=hbA.size
      clear e0 e1 e2 g5 g6 bN o6 hb67 hx7 hx6 bO7
      go_wp2_with fail
      go_roundw
      case rel=>exact ⟨k+1,_,_,ys,by omega,by go_num,by rw [HN.out],set2b _ (set2a _ HO7.out),by rw [HN.out];exact HK7.out.putRes _ _ (by omega) (by omega),below_put (hb.trans (HX7.out.mono (by omega))) _ _ (Nat.le_refl _)⟩
      case measure=>simp [intOf];omega
    ·have p2:¬ (k:Int) < (ds.length:Int):=by omega
     obtain rfl:k=ds.length:=by omega
     have hbx:=hx3.trans (hb.mono (by omega))
     have b2:=HR.out _ hbx
     obtain ⟨r0,r1,f0,f1⟩:=resBox b2
     have HK:=Lib.hid ko
     have hrr:=HRK.out
     rw [List.take_length] at hrr
     have HRR:=Lib.hid hrr
     clear ko bO hbd hok hRk hrr
     go_wp2_with fail
     obtain ⟨k0,k1⟩:=put2 (.slice X1 Dk.now.length x1) (.slice X2 Dk.past.length x2) b2
     refine bodyPost_ret (v:=.tuple #[.agg #[.slice X1 Dk.now.length x1,.slice X2 Dk.past.length x2],.int .i64 nk]) (by simp [results,Tryz.f16,go_sem,k0,k1]) rfl ?_
     exact ⟨_,_,by rw [HV.out,HRR.out],⟨xs,by rw [HV.out,HRR.out];exact HK.out.putRes _ _ (by omega) (by omega)⟩,below_put hbw _ _ (by omega)⟩
  ·have p40:(40:Int) < (ds.length:Int):=by omega
   have HV:=Lib.hid (deskRun_no (D:=D) (ds:=ds) (by simp [runOk,h40]))
   clear ho hE
   go_enter Tryz.func16,Tryz.ntmps16
   go_wp2_with fail
   refine (HD.out _ hb0).mono ?_
   rintro e w1 ⟨rfl,hb1⟩
   rw [H.out]
   have b2:=HR.out _ hb1
   obtain ⟨r0,r1,f0,f1⟩:=resBox b2
   clear c0 c1 hw0
   go_wp2_with fail
   obtain ⟨k0,k1⟩:=put2 (.slice none 0 0) (.slice none 0 0) b2
   refine bodyPost_ret (v:=.tuple #[.agg #[.slice none 0 0,.slice none 0 0],.int .i64 0]) (by simp [results,Tryz.f16,go_sem,k0,k1]) rfl ?_
   exact ⟨_,_,[],by rw [HV.out],by rw [HV.out];exact KO.zero _ _,below_put (HB0.out _ hb1) _ _ (by omega)⟩
end
section
open Go.RowKit Go.Shelf
attribute [local go_sem] Oper.semAt_some
def Kpt (B Bs:Nat) (W W':World):Prop:=Below B W W'∧W'.heap[Bs]?=W.heap[Bs]?
theorem Kpt.t {B Bs:Nat} {A C D:World} (h:Kpt B Bs A C) (k:Kpt B Bs C D):Kpt B Bs A D:=⟨h.1.trans k.1,k.2.trans h.2⟩
theorem Kpt.b {B Bs:Nat} {w:World} (hn:B<=w.heap.size) (hs:Bs < w.heap.size) (W:World) (l:Nat) (o o':Obj) (hl:w.heap.size<=l) (h:W.heap[l]?=some o) (h1:o.isCells=false) (h2:o.isWalk=false):Kpt B Bs W (W.putObj l o') :=
 ⟨belowK_b hn W l o o' hl h h1 h2,by
   have hg:=grownBy_putObj' W l o'
   have:=(Array.getElem?_eq_some_iff.1 h).1
   exact hg.block Bs (by omega) (by simp;omega)⟩
end
end Go.Proofs.YthpccmkagikhjaaGreatDoor

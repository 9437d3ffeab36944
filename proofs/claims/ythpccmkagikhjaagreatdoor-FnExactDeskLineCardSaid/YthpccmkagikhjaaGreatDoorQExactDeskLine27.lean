import Derived.Test.YthpccmkagikhjaaGreatDoorQExactDeskLine2
import Derived.Test.YthpccmkagikhjaaGreatDoorQExactDeskLine3
import Derived.Test.YthpccmkagikhjaaGreatDoorQExactDeskLine7
import Derived.Test.YthpccmkagikhjaaGreatDoorQExactDeskLine8
import Derived.Test.YthpccmkagikhjaaGreatDoorQExactDeskLine9
import Derived.Test.YthpccmkagikhjaaGreatDoorQExactDeskLine17
import Derived.Test.YthpccmkagikhjaaGreatDoorQExactDeskLine23
import Derived.Test.YthpccmkagikhjaaGreatDoorQExactDeskLine24
import Derived.Test.YthpccmkagikhjaaGreatDoorQExactDeskLine25
import Derived.Test.YthpccmkagikhjaaGreatDoorQExactDeskLine26
import Derived.Deep.CutRange
import Derived.Lib.SmallJoins
namespace Go.Proofs.YthpccmkagikhjaaGreatDoor
set_option linter.unusedVariables false
open Go.RowKit
set_option maxRecDepth 8000
set_option maxHeartbeats 16000000
section
attribute [local go_sem ↓] Go.wp_at_zero Go.wp_at_succ
theorem small_say {D:KV} {l:List UInt8}:((deskLine D l).1.now.length<=1048576∧(deskLine D l).1.past.length<=1048576∧totL (deskLine D l).1.past (deskLine D l).1.past.length<=1048576)∧∀ k,k < (deskLine D l).1.past.length->(LL (deskLine D l).1.past k).length<=1048576:=by
 cases h:deskOk D with
 | true=>exact small_of (line_ok h l)
 | false =>
  rw [line_no h]
  exact ⟨⟨by simp [noK],by simp [noK],by simp [noK,totL]⟩,fun k hk=>by simp [noK] at hk⟩
theorem w_FnExactDeskLine (D:KV) (vn vp:Value) (s:ByteArray) (w:World) (hj:LawK w vn vp D) (hV:LV w w.heap.size) :
  Calls Tryz.prog 6 #[.agg #[vn,vp],.string s] w fun e w'=>e=.returned (.bool true)∧Below w.heap.size w w':=by
 obtain ⟨hK,l1,l2,l3⟩:=hj
 have HVV:=Lib.hid hV
 clear hV
 obtain ⟨X1,x1,X2,x2,rfl,rfl⟩:=(show ∃ A c A' c',vn=.slice A D.now.length c∧vp=.slice A' D.past.length c' from by obtain ⟨⟨A,c,e1,-,-⟩,A',c',e2,-,-⟩:=hK;exact ⟨A,c,A',c',e1,e2⟩)
 obtain ⟨w0,hw0,hz0,hb0,HC0⟩:=box_two w (.slice X1 D.now.length x1) (.slice X2 D.past.length x2) 56
 obtain ⟨l,rfl⟩:∃ l,s=bs l:=⟨s.data.toList,by simp [bs]⟩
 have k1:=ks_up hK hb0
 have HC:=Lib.hid HC0
 obtain ⟨q0,q1⟩:=HC.out _ (Below.refl _ w0)
 have HZ:=Lib.hid (c_szDesk D _ _ w0 k1 l1 l2 l3)
 have HSz:=Lib.hid (bs_size l)
 clear hK HC0 l1 l2 l3
 by_cases hlen:1048576 < l.length
 ·have hl':(1048576:Int) < ((bs l).size:Int):=by rw [HSz.out];omega
  go_enter Tryz.func6,Tryz.ntmps6
  go_wp2_with fail
  go_ret
  exact ⟨rfl,hb0⟩
 have hl':¬ (1048576:Int) < ((bs l).size:Int):=by rw [HSz.out];omega
 go_enter Tryz.func6,Tryz.ntmps6
 go_wp2_with fail
 clear hw0 q0 q1
 refine HZ.out.mono ?_
 rintro e w3 ⟨r,rfl,hb3,hr1,hr2,hr3⟩
 have hx3:=hb0.trans (hb3.mono hb0.size)
 by_cases hn:r < 0
 ·have d1:decide (r < 0)=true:=decide_eq_true hn
  clear hr3
  go_wp2_with fail
  go_ret
  exact ⟨rfl,hx3⟩
 ·have d1:decide (r < 0)=false:=decide_eq_false hn
  obtain ⟨⟨m1,m2,m3⟩,m4,hsm⟩:=small_all (by omega) (hr3 (by omega))
  clear hr3
  have HL:=Lib.hid (fun W (hb:Below w3.heap.size w3 W)=>HC.out W (hb3.trans (hb.mono hb3.size)))
  have HTo:=Lib.hid (fun W (hb:Below w3.heap.size w3 W)=>c_toDesk D _ _ W (ks_up k1 (hb3.trans (hb.mono hb3.size))) m1 m2 m4)
  have HDs:=Lib.hid (fun W {un up:Value} (hK:Ks W W.heap.size un up D)=>c_sDeskLine D un up l W hK hsm (by omega))
  have hs3:=hx3.size
  obtain ⟨q0,q1⟩:=HL.out w3 (Below.refl _ _)
  go_wp2_with fail
  refine (HTo.out w3 (Below.refl _ _)).mono ?_
  rintro e wa ⟨an,ap,as2,rfl,oa,hba⟩
  obtain ⟨A1,a1,A2,a2,rfl,rfl⟩:=oa.slices
  clear q0 q1
  go_wp2_with fail
  refine (HDs.out wa oa.ks).mono ?_
  rintro e wy ⟨yn,yp,ys,rfl,oy,hby⟩
  obtain ⟨S1,s1,S2,s2,rfl,rfl⟩:=oy.slices
  obtain ⟨V5,hV5⟩:∃ z,wy.alloc (.cells #[.slice S1 (deskLine D l).1.now.length s1,.slice S2 (deskLine D l).1.past.length s2] 31)=z:=⟨_,rfl⟩
  have hbyz:Below wy.heap.size wy V5:=by rw [<- hV5];exact (Below.refl _ wy).alloc (Nat.le_refl _) _
  have b6:V5.heap[wy.heap.size]?=some (.cells #[.slice S1 (deskLine D l).1.now.length s1,.slice S2 (deskLine D l).1.past.length s2] 31 (0,0)):=by rw [<- hV5];exact heap_alloc_new _ _
  have hbV:Below w3.heap.size w3 V5:=hba.trans ((hby.trans (hbyz.mono hby.size)).mono hba.size)
  have hBy:w3.heap.size<=wy.heap.size:=Nat.le_trans hba.size hby.size
  have oz:=(oy.below hbyz (Nat.le_refl _)).mono hba.size
  obtain ⟨B6,hB6e⟩:∃ b,wy.heap.size=b:=⟨_,rfl⟩
  rw [hB6e] at b6 hBy
  have hB6:=hBy
  have hb6:=hbV
  have o6:=oz
  clear hbyz oy oa hby hba oz hbV hBy
  ·have hl6:=(Array.getElem?_eq_some_iff.1 b6).1
   have H6:=Lib.hid (fun W (hb:Below V5.heap.size V5 W)=>show W.cell? ⟨B6,0,none⟩=some (.slice S1 (deskLine D l).1.now.length s1)∧W.cell? ⟨B6,1,none⟩=some (.slice S2 (deskLine D l).1.past.length s2) from ⟨(two_at ((hb.block B6 hl6).trans b6)).1,(two_at ((hb.block B6 hl6).trans b6)).2.1⟩)
   have HL5:=Lib.hid (fun W (hb:Below V5.heap.size V5 W)=>HL.out W (hb6.trans (hb.mono hb6.size)))
   have HTo5:=Lib.hid (fun W (hb:Below V5.heap.size V5 W)=>HTo.out W (hb6.trans (hb.mono hb6.size)))
   have hsX:=small_say (l:=l) (D:=D)
   obtain ⟨⟨p1,p2,p3⟩,p4⟩:=hsX
   have HE6:=Lib.hid (fun W {un up:Value} (hK:Ks W W.heap.size un up (deskLine D l).1) (hb:Below V5.heap.size V5 W)=>c_eqDesk (deskLine D l).1 un up _ _ W hK (ks_up o6.ks hb) p1 p2 p4)
   have hx5:=hx3.trans (hb6.mono hs3)
   obtain ⟨q0,q1⟩:=HL5.out _ (Below.refl _ V5)
   clear HL HTo HDs b6 o6 hb6
   go_wp2_with fail
   refine (HTo5.out _ (Below.refl _ _)).mono ?_
   rintro e w8 ⟨xn,xp,xs,rfl,o8,hb8⟩
   obtain ⟨E1,e1,E2,e2,rfl,rfl⟩:=o8.slices
   clear q0 q1
   obtain ⟨w9,hw9,hz9,hb9,HC9⟩:=box_two w8 (.slice E1 D.now.length e1) (.slice E2 D.past.length e2) 31
   have hb59:Below V5.heap.size V5 w9:=hb8.trans (hb9.mono hb8.size)
   have x9:=o8.below hb9 (Nat.le_refl _)
   have hx0n:∀ r,(Value.slice E1 D.now.length e1).ownBlock=some r->r < w8.heap.size:=owns_lt o8.now
   have hx0i:∀ j,j < D.past.length->∀ r,(xs.getD j undef).ownBlock=some r->r < w8.heap.size:=fun j hj=>owns_lt (o8.past.inner j hj)
   have HC9:=Lib.hid HC9
   have HK0:=Lib.hid (fun W (hb:Below w9.heap.size w9 W)=>ks_up x9.ks hb)
   have HL:=HC9
   have HDi:=Lib.hid (fun W {un up:Value} (hK:Ks W W.heap.size un up D) (hW:LV W W.heap.size)=>c_iDeskLine D un up l W hK hsm (by omega) hW)
   have hs5:=hx5.size
   have hs59:=hb59.size
   clear hb8 hb9
   obtain ⟨q0,q1⟩:=HC9.out w9 (Below.refl _ _)
   go_wp2_with fail
   clear hw9
   refine (HDi.out w9 x9.ks (HVV.out.at (hx5.trans (hb59.mono hs5)))).mono ?_
   rintro e wy ⟨gn,gp,gs,rfl,oy,hby⟩
   obtain ⟨G1,g1,G2,g2,rfl,rfl⟩:=oy.slices
   obtain ⟨V9,hV9⟩:∃ z,wy.alloc (.cells #[.slice G1 (deskLine D l).1.now.length g1,.slice G2 (deskLine D l).1.past.length g2] 31)=z:=⟨_,rfl⟩
   have hbyz:Below wy.heap.size wy V9:=by rw [<- hV9];exact (Below.refl _ wy).alloc (Nat.le_refl _) _
   have b9:V9.heap[wy.heap.size]?=some (.cells #[.slice G1 (deskLine D l).1.now.length g1,.slice G2 (deskLine D l).1.past.length g2] 31 (0,0)):=by rw [<- hV9];exact heap_alloc_new _ _
   have hb9:Below w9.heap.size w9 V9:=hby.trans (hbyz.mono hby.size)
   have hB9:w9.heap.size<=wy.heap.size:=hby.size
   have n1:∀ r,(Value.slice G1 (deskLine D l).1.now.length g1).ownBlock=some r->r≠wy.heap.size:=fun r hr=>by have:=owns_lt oy.now r hr;omega
   have n2:∀ j,j < (deskLine D l).1.past.length->∀ r,(gs.getD j undef).ownBlock=some r->r≠wy.heap.size:=fun j hj r hr=>by have:=owns_lt (oy.past.inner j hj) r hr;omega
   have o9:=oy.below hbyz (Nat.le_refl _)
   clear q0 q1
   obtain ⟨B9,hB9e⟩:∃ b,wy.heap.size=b:=⟨_,rfl⟩
   rw [hB9e] at b9 hB9 n1 n2
   clear hbyz oy hby
   ·have hl9:=(Array.getElem?_eq_some_iff.1 b9).1
    have hb69:Below V5.heap.size V5 V9:=hb59.trans (hb9.mono hs59)
    have hs9:=hb9.size
    have hs69:=hb69.size
    have hne:((bs (deskLine D l).2).toList != (bs (deskLine D l).2).toList)=false:=by simp
    obtain ⟨q0,q1⟩:=H6.out V9 hb69
    obtain ⟨q2,q3,-,-⟩:=two_at b9
    go_wp2_with fail
    refine (HE6.out V9 o9.ks hb69).mono ?_
    rintro e w10 ⟨rfl,hb10⟩
    have hs10:=hb10.size
    have hb910:Below w9.heap.size w9 w10:=hb9.trans (hb10.mono hs9)
    have hb610:Below V5.heap.size V5 w10:=hb69.trans (hb10.mono hs69)
    clear q0 q1 q2 q3
    have HS:=Lib.hid (fun W (hb:Below w10.heap.size w10 W)=>show (W.cell? ⟨w8.heap.size,0,none⟩=some (.slice E1 D.now.length e1)∧W.cell? ⟨w8.heap.size,1,none⟩=some (.slice E2 D.past.length e2))∧(W.cell? ⟨w.heap.size,0,none⟩=some (.slice X1 D.now.length x1)∧W.cell? ⟨w.heap.size,1,none⟩=some (.slice X2 D.past.length x2)) from ⟨⟨(HL.out W (hb910.trans (hb.mono hb910.size))).1,(HL.out W (hb910.trans (hb.mono hb910.size))).2⟩,(HL5.out W (hb610.trans (hb.mono hb610.size))).1,(HL5.out W (hb610.trans (hb.mono hb610.size))).2⟩)
    obtain ⟨⟨q0,q1⟩,q2,q3⟩:=HS.out _ (Below.refl _ w10)
    go_wp2_with fail
    go_region_held3 (fun W=>W.cell? ⟨w8.heap.size,0,none⟩=some (.slice E1 D.now.length e1)∧W.cell? ⟨w8.heap.size,1,none⟩=some (.slice E2 D.past.length e2)∧W.cell? ⟨w.heap.size,0,none⟩=some (.slice X1 D.now.length x1)∧W.cell? ⟨w.heap.size,1,none⟩=some (.slice X2 D.past.length x2))
     (first
       | go_keep
       | exact ⟨(HS.out _ hb1012).1.1,(HS.out _ hb1012).1.2,(HS.out _ hb1012).2.1,(HS.out _ hb1012).2.2⟩
       | exact ⟨(HS.out _ hb1011).1.1,(HS.out _ hb1011).1.2,(HS.out _ hb1011).2.1,(HS.out _ hb1011).2.2⟩)
     (first
       | (go_at_call 29;(with_reducible refine (HTo5.out w10.drew (hb610.trans ((Below.refl _ w10).drew.mono hb610.size))).mono ?_);rintro e w11 ⟨cn,cp,cs7,rfl,o11,hb11⟩;have hb1011:Below w10.heap.size w10 w11:=(Below.refl _ w10).drew.trans hb11)
       | (go_at_call 30;refine (c_eqDesk D _ _ _ _ w11 (HK0.out _ (hb910.trans (hb1011.mono hb910.size))) o11.ks m1 m2 m4).mono ?_;rintro e w12 ⟨rfl,hb12⟩;have hb1012:Below w10.heap.size w10 w12:=hb1011.trans (hb12.mono hb1011.size)))
    have hs12:=hb1012.size
    have hb912:Below w9.heap.size w9 w12:=hb910.trans (hb1012.mono hb910.size)
    have hb612:Below V5.heap.size V5 w12:=hb610.trans (hb1012.mono hb610.size)
    have hb99:Below V9.heap.size V9 w12:=hb10.trans (hb1012.mono hs10)
    have x12:=x9.below hb912 (Nat.le_refl _)
    have o12:=o9.below hb99 (Nat.le_refl _)
    have b12:=(hb99.block B9 hl9).trans b9
    have hall:allK D<=2097152:=by simp only [allK];omega
    have hallX:allK (deskLine D l).1<=2097152:=by simp only [allK];omega
    have d2:decide ((1:Int)+2 * (allK D:Int) < 0)=false:=decide_eq_false (by omega)
    have d3:decide ((1:Int)+2 * (allK (deskLine D l).1:Int) < 0)=false:=decide_eq_false (by omega)
    have d4:((1:Int)+2 * (allK (deskLine D l).1:Int) != 1+2 * (allK (deskLine D l).1:Int))=false:=by simp
    have HL12:=HL.out w12 hb912
    clear q0 q1 q2 q3 HS o9 b9 x9
    obtain ⟨q0,q1⟩:=HL12
    go_wp2_with fail
    refine (c_markDesk D 1 _ _ xs _ w12 x12 m1 m2 m3 (by omega) (by omega) (by omega)).mono ?_
    rintro e w13 ⟨rfl,-,hb13,hB13⟩
    have hs13:=hb13.size
    have o13:=o12.sameB hs13 (fun j hj hj2=>hB13 j hj2 (fun r hr=>by have:=hx0n r hr;omega) (fun i hi r hr=>by have:=hx0i i hi r hr;omega))
    have b13:=(hB13 B9 (by omega) (fun r hr=>by have:=hx0n r hr;omega) (fun i hi r hr=>by have:=hx0i i hi r hr;omega)).trans b12
    have hb613:Below V5.heap.size V5 w13:=hb612.trans hb13
    clear q0 q1 x12 o12 b12 hB13
    obtain ⟨q0,q1⟩:=H6.out w13 hb613
    obtain ⟨q2,q3,-,-⟩:=two_at b13
    go_wp2_with fail
    refine (HE6.out w13 o13.ks hb613).mono ?_
    rintro e w14 ⟨rfl,hb14⟩
    have hs14:=hb14.size
    have o14:=o13.below hb14 (Nat.le_refl _)
    have b14:=(hb14.block B9 (by omega)).trans b13
    have hb614:Below V5.heap.size V5 w14:=hb613.trans (hb14.mono hb613.size)
    clear q0 q1 q2 q3 o13 b13
    obtain ⟨q2,q3,-,-⟩:=two_at b14
    go_wp2_with fail
    refine (c_markDesk (deskLine D l).1 1 _ _ gs _ w14 o14 p1 p2 p3 (by omega) (by omega) (by omega)).mono ?_
    rintro e w15 ⟨rfl,o15,hb15,hB15⟩
    have hs15:=hb15.size
    have b15:=(hB15 B9 (by omega) n1 n2).trans b14
    have hb615:Below V5.heap.size V5 w15:=hb614.trans (hb15.mono hs59)
    clear q2 q3 o14 b14 hB15
    obtain ⟨q2,q3,-,-⟩:=two_at b15
    go_wp2_with fail
    refine (c_heldDesk (deskLine D l).1 1 _ _ w15 o15.ks p1 p2 p3 (by omega) (by omega)).mono ?_
    rintro e w16 ⟨rfl,hb16⟩
    have hs16:=hb16.size
    have o16:=o15.below hb16 (Nat.le_refl _)
    have b16:=(hb16.block B9 (by omega)).trans b15
    have hb616:Below V5.heap.size V5 w16:=hb615.trans (hb16.mono hb615.size)
    clear q2 q3 o15 b15 HL
    have HL:=Lib.hid (fun W (hb:Below w16.heap.size w16 W)=>HL5.out W (hb616.trans (hb.mono hb616.size)))
    have HTo:=Lib.hid (fun W (hb:Below w16.heap.size w16 W)=>HTo5.out W (hb616.trans (hb.mono hb616.size)))
    obtain ⟨q0,q1⟩:=HL.out w16 (Below.refl _ _)
    go_wp2_with fail
    refine (HTo.out w16 (Below.refl _ _)).mono ?_
    rintro e wa ⟨an,ap,as2,rfl,oa,hba⟩
    obtain ⟨A1,a1,A2,a2,rfl,rfl⟩:=oa.slices
    clear q0 q1
    go_wp2_with fail
    refine (HDi.out wa oa.ks (HVV.out.at (hx5.trans ((hb616.trans (hba.mono hb616.size)).mono hs5)))).mono ?_
    rintro e wy ⟨yn,yp,ys,rfl,oy,hby⟩
    obtain ⟨J1,j1,J2,j2,rfl,rfl⟩:=oy.slices
    obtain ⟨V24,hV24⟩:∃ z,wy.alloc (.cells #[.slice J1 (deskLine D l).1.now.length j1,.slice J2 (deskLine D l).1.past.length j2] 31)=z:=⟨_,rfl⟩
    have hbyz:Below wy.heap.size wy V24:=by rw [<- hV24];exact (Below.refl _ wy).alloc (Nat.le_refl _) _
    have bh:V24.heap[wy.heap.size]?=some (.cells #[.slice J1 (deskLine D l).1.now.length j1,.slice J2 (deskLine D l).1.past.length j2] 31 (0,0)):=by rw [<- hV24];exact heap_alloc_new _ _
    have hbV:Below w16.heap.size w16 V24:=hba.trans ((hby.trans (hbyz.mono hby.size)).mono hba.size)
    have hBy:w16.heap.size<=wy.heap.size:=Nat.le_trans hba.size hby.size
    have oz:=(oy.below hbyz (Nat.le_refl _)).mono hba.size
    have hbh:=hbV
    have oh:=oz
    clear hbyz oy oa hby hba oz hbV
    ·have hsh:=hbh.size
     have hb624:Below V5.heap.size V5 V24:=hb616.trans (hbh.mono hb616.size)
     obtain ⟨q0,q1⟩:=H6.out V24 hb624
     obtain ⟨q2,q3,-,-⟩:=two_at bh
     go_wp2_with fail
     refine (HE6.out V24 oh.ks hb624).mono ?_
     rintro e w25 ⟨rfl,hb25⟩
     have hb1625:Below w16.heap.size w16 w25:=hbh.trans (hb25.mono hsh)
     have o25:=o16.below hb1625 (Nat.le_refl _)
     have b25:=(hb1625.block B9 (by omega)).trans b16
     clear q0 q1 q2 q3 o16 b16
     obtain ⟨q2,q3,-,-⟩:=two_at b25
     go_wp2_with fail
     refine (c_heldDesk (deskLine D l).1 1 _ _ w25 o25.ks p1 p2 p3 (by omega) (by omega)).mono ?_
     rintro e w26 ⟨rfl,hb26⟩
     go_wp2_with fail
     go_ret
     exact ⟨rfl,hx5.trans (((hb616.trans (hb1625.mono hb616.size)).trans (hb26.mono (hb616.trans (hb1625.mono hb616.size)).size)).mono hs5)⟩
end
section
open Go.RowKit Go.ChangeShapes Go.WideShapes Go.ChangeAt Go.Deep Go.Joins
theorem open_lawRow {H:Type} {enc:TypeId×Value->H} {W:World} {fuel:Nat} {v:Value} {y:DataW H×List MemPlace} (h:DataW.trod enc Tryz.prog W 0 (fun _=>true) true fuel 53 [v]=some y) :
  ∃ (A:Option Addr) (c:Nat) (L:List (Int×Int)),v=.slice A L.length c∧L.length<=c∧c<=maxLen∧Cs W W.heap.size A L:=by
 obtain ⟨A,n,c,rfl⟩:∃ A n c,v=.slice A n c:=by
  rcases open_slice_pairs Tryz.underlying53 Tryz.underlying156 cellsLC rfl rfl cellsI cellsI h with ⟨hcs,_⟩ | ⟨a,len,cap,m,k,V0,V1,D0,D1,P0,P1,hcs,_⟩
  ·exact ⟨none,0,0,by simpa using hcs⟩
  ·exact ⟨some a,len,cap,by simpa using hcs⟩
 obtain ⟨L,rfl,h1,h2,h3⟩:=open_lawCust (A:=A) (n:=n) (c:=c) (d:=y.1) (p:=y.2) ⟨fuel,by simpa [Value.cells] using h⟩
 exact ⟨A,c,L,rfl,h1,h2,h3⟩
theorem cellsLS:Tryz.prog.cellsOf 53=1:=by kernel_rfl
theorem open_lawRows {H:Type} {enc:TypeId×Value->H} {W:World} {fuel:Nat} {v:Value} {y:DataW H×List MemPlace} (h:DataW.trod enc Tryz.prog W 0 (fun _=>true) true fuel 54 [v]=some y) :
  ∃ (A:Option Addr) (c:Nat) (Ls:List (List (Int×Int))),v=.slice A Ls.length c∧Ls.length<=c∧c<=maxLen∧Css W W.heap.size A Ls∧∀ k,k < Ls.length->(LL Ls k).length<=maxLen:=by
 rcases open_slice1 Tryz.underlying54 cellsLS h with ⟨hcs,_⟩ | ⟨a,len,cap,m,k,V,D0,P0,hcs,_,hl,hm,hmm,_,hx⟩
 ·have hv:v=.slice none 0 0:=by simpa using hcs
  subst hv
  exact ⟨none,0,[],rfl,Nat.le_refl _,by simp [maxLen],Css.nil _ _ _,fun k hk=>by simp at hk⟩
 ·have hv:v=.slice (some a) len cap:=by simpa using hcs
  subst hv
  have hmc:m=cap:=by simpa using hmm
  subst hmc
  have each:∀ r,r < m->∃ q:Option Addr×Nat×List (Int×Int),V r=.slice q.1 q.2.2.length q.2.1∧q.2.2.length<=q.2.1∧q.2.1<=maxLen∧Cs W W.heap.size q.1 q.2.2:=by
   intro r hr
   obtain ⟨A,c,L,e,h1,h2,h3⟩:=open_lawRow (hx r hr).2
   exact ⟨(A,c,L),e,h1,h2,h3⟩
  obtain ⟨q,hq⟩:=choose_lt each
  have hLL:∀ k,k < len->LL ((List.range len).map fun r=>(q r).2.2) k=(q k).2.2:=fun k hk=>by
   rw [LL_get (by simpa using hk)];simp
  refine ⟨some a,m,(List.range len).map fun r=>(q r).2.2,by simp,by simpa using hl,hm,fun hp=>?_,fun k hk=>?_⟩
  ·simp only [List.length_map,List.length_range] at hp
   obtain ⟨b,off,spot⟩:=a
   have hc0:=(hx 0 (by omega)).1
   have hspot:spot=none:=by simpa [Addr.add] using World.cell?_spot hc0
   subst hspot
   have hadd:∀ j,(⟨b,off,none⟩:Addr).add j=⟨b,off+j,none⟩:=by
    intro j
    by_cases e:j=0 <;> simp [Addr.add,e]
   refine ⟨b,off,rfl,?_,fun k hk=>?_⟩
   ·rw [hadd] at hc0
    exact World.block_lt_of_cell? W _ hc0
   ·simp only [List.length_map,List.length_range] at hk
    have hc:=(hx k (by omega)).1
    rw [hadd] at hc
    obtain ⟨e,h1,h2,h3⟩:=hq k (by omega)
    rw [hLL k hk]
    exact ⟨(q k).1,(q k).2.1,by rw [hc,e],h1,h3⟩
  ·simp only [List.length_map,List.length_range] at hk
   obtain ⟨e,h1,h2,h3⟩:=hq k (by omega)
   rw [hLL k hk]
   omega
theorem open_lawDesk {H:Type} {enc:TypeId×Value->H} {W:World} {r:Reach} {b0:Nat} {v:Value} {d:DataW H} {p:List MemPlace} (hv:Value.okWide Tryz.prog W r b0 56 v)
  (h:DataW.Trod enc Tryz.prog W 0 (fun _=>true) true 56 v d p):∃ (u o:Value) (D:KV),v=.agg #[u,o]∧LawK W u o D:=by
 obtain ⟨c0,c1,y0,y1,n,rfl,-,-,t0,t1⟩:=open_agg2 Tryz.underlying56 (by kernel_rfl) (by kernel_rfl) hv h
 obtain ⟨A,c,L,rfl,h1,h2,h3⟩:=open_lawRow t0
 obtain ⟨B,e,Ls,rfl,h4,h5,h6,h7⟩:=open_lawRows t1
 refine ⟨_,_,⟨L,Ls⟩,rfl,⟨⟨A,c,rfl,h1,h3⟩,B,e,rfl,h4,h6⟩,?_,?_,fun k hk=>?_⟩
 ·simp only [maxLen] at h2;simp only;omega
 ·simp only [maxLen] at h5;simp only;omega
 ·have:=h7 k hk
  simp only [maxLen] at this
  omega
end
end Go.Proofs.YthpccmkagikhjaaGreatDoor

import Derived.Test.YthpccmkagikhjaaGreatDoorQDeskSay11
import Derived.Test.YthpccmkagikhjaaGreatDoorQDeskSay28
import Derived.Test.YthpccmkagikhjaaGreatDoorQDeskSay31
import Derived.Deep.CutRange
namespace Go.Proofs.YthpccmkagikhjaaGreatDoor
set_option linter.unusedVariables false
open Go.RowKit
set_option maxRecDepth 8000
set_option maxHeartbeats 16000000
section
attribute [local go_sem ↓] Go.wp_at_zero Go.wp_at_succ
theorem deskSay_parts {D:KV} {ls:List (List UInt8)} (h:sayOk D ls=true) (m:Nat) :
  (deskSay (deskSay D (ls.take m)).1 (ls.drop m)).1=(deskSay D ls).1∧(deskSay D (ls.take m)).2++(deskSay (deskSay D (ls.take m)).1 (ls.drop m)).2=(deskSay D ls).2:=by
 have h':=h
 simp only [sayOk,Bool.and_eq_true,decide_eq_true_eq] at h'
 have h1:sayOk D (ls.take m)=true:=by simp only [sayOk,Bool.and_eq_true,decide_eq_true_eq];exact ⟨h'.1,by rw [List.length_take];omega⟩
 rw [deskSay_yes h,deskSay_yes h1]
 have h2:sayOk (sayTo D (ls.take m)).1 (ls.drop m)=true:=by simp only [sayOk,Bool.and_eq_true,decide_eq_true_eq];exact ⟨(sayTo_ok h'.1 _).1,by rw [List.length_drop];omega⟩
 rw [deskSay_yes h2]
 have:=sayTo_append D (ls.take m) (ls.drop m)
 rw [List.take_append_drop] at this
 rw [this]
 exact ⟨rfl,rfl⟩
theorem say_small {D:KV} {ls:List (List UInt8)} (_:SmallK D):SmallK (deskSay D ls).1:=by
 cases h:sayOk D ls with
 | true =>
  rw [deskSay_yes h]
  simp only [sayOk,Bool.and_eq_true] at h
  exact small_ok (sayTo_ok h.1 ls).1
 | false=>rw [deskSay_no h];exact small_zero
theorem say_ok {D:KV} {ls:List (List UInt8)} (h:sayOk D ls=true):deskOk (deskSay D ls).1=true:=by
 rw [deskSay_yes h]
 simp only [sayOk,Bool.and_eq_true] at h
 exact (sayTo_ok h.1 ls).1
theorem say_len {D:KV} {ls:List (List UInt8)} (h:sayOk D ls=true):(deskSay D ls).2.length=ls.length:=by rw [deskSay_yes h];exact sayTo_len D ls
theorem say_le (D:KV) (ls:List (List UInt8)):(deskSay D ls).2.length<=ls.length:=by
 cases h:sayOk D ls with
 | true=>rw [say_len h];exact Nat.le_refl _
 | false=>rw [deskSay_no h];simp
theorem say_ne {D:KV} {ls:List (List UInt8)} (h:sayOk D ls=true) (k:Nat) (hk:k < (deskSay D ls).2.length):ZS (deskSay D ls).2 k≠[]:=by
 have h':=h
 simp only [sayOk,Bool.and_eq_true] at h'
 rw [deskSay_yes h] at hk ⊢
 refine (sayTo_ok h'.1 ls).2 _ ?_
 simp only [ZS,List.getD_eq_getElem?_getD,List.getElem?_eq_getElem hk,Option.getD_some]
 exact List.getElem_mem _
theorem lineT (D:KV) (vn vp:Value) (s:List UInt8) (w:World) (hK:Ks w w.heap.size vn vp D) (hs:SmallK D) (hl:s.length<=100000000) (hV:LV w w.heap.size) :
  Calls Tryz.prog 14 #[.agg #[vn,vp],.string (bs s)] w fun e w'=>∃ (A:Option Addr) (c:Nat) (A':Option Addr) (c' n n':Nat),e=.returned (.tuple #[.agg #[.slice A n c,.slice A' n' c'],.string (bs (deskLine D s).2)])∧Below w.heap.size w w':=by
 refine (c_iDeskLine D vn vp s w hK hs hl hV).mono ?_
 rintro e w' ⟨un,up,us,rfl,o,hb⟩
 obtain ⟨A,c,A',c',rfl,rfl⟩:=o.slices
 exact ⟨A,c,A',c',_,_,rfl,hb⟩
theorem w_FnDeskSay (A:Option Addr) (n c:Nat) (w:World) (h:Bs w w.heap.size A n) (hc:n<=c) (hV:LV w w.heap.size) :
  Calls Tryz.prog 5 #[.slice A n c] w fun e w'=>e=.returned (.bool true)∧Below w.heap.size w w':=by
 by_cases hn:n<=1048576
 ·go_enter Tryz.func5,Tryz.ntmps5
  go_wp2_with fail
  refine (c_DrawDeskSay A n c _ h hn hc).mono ?_
  rintro e w1 ⟨vn,vp,D,v,ls,rfl,hD,o1,hl,hl40,hb1⟩
  have hs1:=hb1.size
  obtain ⟨X1,x1,X2,x2,rfl,rfl⟩:=hD.now.slices
  obtain ⟨G,gc,rfl,hgc,hgs,hG⟩:=SO.formE o1
  obtain ⟨w2,hw2,hz2,hb2,HC2⟩:=laidK w1 (.slice X1 D.now.length x1) (.slice X2 D.past.length x2)
  have hsm:=hD.small
  have hT:∀ k,k < ls.length->(ZS ls k).length<=100000000:=fun k hk=>by
   have:=hl40 (ZS ls k) (by simp only [ZS,List.getD_eq_getElem?_getD,List.getElem?_eq_getElem hk,Option.getD_some];exact List.getElem_mem _)
   omega
  have k2:=hD.now.up7 hb2
  have g2:=(hG.below hb2).more hb2.size
  have hx2:=hb1.trans (hb2.mono hs1)
  have HCd:=Lib.hid HC2
  have smX:=say_small (ls:=ls) hsm
  have hYl:=say_le D ls
  obtain ⟨q0,q1⟩:=HCd.out _ (Below.refl _ w2)
  have HV2:=Lib.hid (hV.at hx2)
  have HD1:=Lib.hid (c_iDeskSay D ls _ _ G gc w2 k2 hsm g2 hgc (by omega) hT HV2.out)
  clear h hD hb1 hb2 o1 hG hl40
  go_wp2_with fail
  clear hw2
  refine HD1.out.mono ?_
  rintro e w4 ⟨xn,xp,xs,xo,rfl,o4,t4,-,hb4⟩
  obtain ⟨Y1,y1,Y2,y2,rfl,rfl⟩:=o4.slices
  obtain ⟨E,ec,rfl,hec,-,hE⟩:=SO.form t4
  obtain ⟨w5,hw5,hz5,hb5,HC5⟩:=laidK w4 (.slice Y1 (deskSay D ls).1.now.length y1) (.slice Y2 (deskSay D ls).1.past.length y2)
  have hb25:Below w2.heap.size w2 w5:=hb4.trans (hb5.mono hb4.size)
  have kx5:=o4.ks.up7 hb5
  have e5:=(hE.below hb5).more hb5.size
  have k5:=k2.up7 hb25
  have g5:=(g2.below hb25).more hb25.size
  have HC5:=Lib.hid HC5
  have HD2:=Lib.hid (c_sDeskSay D ls _ _ G gc w5 k5 hsm g5 (by omega) hT)
  obtain ⟨q5,q6⟩:=HCd.out _ hb25
  clear q0 q1 HD1 o4 t4 hE hb4 hb5 k2 g2
  go_wp2_with fail
  clear hw5 q5 q6
  refine HD2.out.mono ?_
  rintro e w6 ⟨zn,zp,zs,zo,rfl,o6,t6,-,hb6⟩
  obtain ⟨Z1,z1,Z2,z2,rfl,rfl⟩:=o6.slices
  obtain ⟨M,mc,rfl,hmc,-,hM⟩:=SO.form t6
  obtain ⟨w7,hw7,hz7,hb7,HC7⟩:=laidK w6 (.slice Z1 (deskSay D ls).1.now.length z1) (.slice Z2 (deskSay D ls).1.past.length z2)
  have hb57:Below w5.heap.size w5 w7:=hb6.trans (hb7.mono hb6.size)
  have kz7:=o6.ks.up7 hb7
  have m7:=(hM.below hb7).more hb7.size
  have k7:=k5.up7 hb57
  have kx7:=kx5.up7 hb57
  have g7:=(g5.below hb57).more hb57.size
  have e7:=(e5.below hb57).more hb57.size
  have hb27:=hb25.trans (hb57.mono hb25.size)
  have HC7:=Lib.hid HC7
  have HS7:=Lib.hid (c_sameDesk _ _ _ _ _ _ w7 kx7 kz7 smX smX)
  have HT7:=Lib.hid (fun W (hb:Below w7.heap.size w7 W)=>show Calls Tryz.prog 27 #[.slice E (deskSay D ls).2.length ec,.slice M (deskSay D ls).2.length mc] W fun e w'=>e=.returned (.bool true)∧Below W.heap.size W w' from by
   have K:=c_sameTexts (deskSay D ls).2 (deskSay D ls).2 E M _ _ ec mc W ((e7.below hb).more hb.size) ((m7.below hb).more hb.size) (by omega) (by omega)
   rw [decide_eq_true (rfl:(deskSay D ls).2=(deskSay D ls).2)] at K
   exact K)
  obtain ⟨q0,q1⟩:=HC5.out _ hb57
  obtain ⟨q2,q3⟩:=HC7.out _ (Below.refl _ w7)
  clear HD2 o6 t6 hM hb6 hb7 kx5 k5 g5 e5
  go_wp2_with fail
  clear hw7 q0 q1 q2 q3
  refine HS7.out.mono ?_
  rintro e w75 ⟨rfl,hb75⟩
  rw [eqK_self]
  go_wp2_with fail
  refine (HT7.out _ hb75).mono ?_
  rintro e w8 ⟨rfl,hb85⟩
  have hb8:=hb75.trans (hb85.mono hb75.size)
  have hb28:=hb27.trans (hb8.mono hb27.size)
  have hb58:=hb57.trans (hb8.mono hb57.size)
  have k8:=k7.up7 hb8
  have kx8:=kx7.up7 hb8
  have g8:=(g7.below hb8).more hb8.size
  have e8:=(e7.below hb8).more hb8.size
  have hx8:=hx2.trans (hb28.mono (by have:=hx2.size;omega))
  have HOk:=Lib.hid (c_sDeskOk D _ _ w8 k8 hsm)
  obtain ⟨q0,q1⟩:=HCd.out _ hb28
  clear HS7 HT7 HC7 kz7 hb8 hb75 hb85 k7 kx7 g7 e7 m7
  go_wp2_with fail
  refine HOk.out.mono ?_
  rintro e w9 ⟨rfl,hb9⟩
  have hb59:=hb58.trans (hb9.mono hb58.size)
  have hb29:=hb28.trans (hb9.mono hb28.size)
  have k9:=k8.up7 hb9
  have kx9:=kx8.up7 hb9
  have g9:=(g8.below hb9).more hb9.size
  have e9:=(e8.below hb9).more hb9.size
  have hx9:=hx8.trans (hb9.mono hx8.size)
  clear q0 q1 HOk k8 kx8 g8 e8 hb9 hb57 hb25 hb27
  by_cases hok:deskOk D=true∧ls.length<=40
  ·have hrun:sayOk D ls=true:=by simp [sayOk,hok.1,hok.2]
   obtain ⟨m,hm⟩:∃ m,ls.length / 2=m:=⟨_,rfl⟩
   have hm2:m<=ls.length:=by omega
   have hparts:=Lib.hid (deskSay_parts hrun m)
   have HXok:=Lib.hid (say_ok hrun)
   have HYL:=Lib.hid (say_len hrun)
   have HNE:=Lib.hid (say_ne hrun)
   have HYS:=Lib.hid (show (deskSay D ls).2.length<=41 by omega)
   have h40:¬ (40:Int) < (ls.length:Int):=by omega
   have H1:=Lib.hid hok.1
   have hqm:Int.tdiv (ls.length:Int) 2=(m:Int):=by rw [Int.tdiv_eq_ediv_of_nonneg (by omega)];omega
   have qw:IntKind.i64.wrap (m:Int)=(m:Int):=IntWalk.i64_in _ (by omega)
   have p0:(0:Int)<=(m:Int):=by omega
   have p1:(m:Int)<=(ls.length:Int):=by omega
   have p2:(m:Int)<=(gc:Int):=by omega
   have p3:(ls.length:Int)<=(gc:Int):=by omega
   have hl1:(ls.take m).length=m:=by rw [List.length_take];omega
   have hl2:(ls.drop m).length=ls.length - m:=List.length_drop
   have HCd:=Lib.hid (fun W (hb:Below w9.heap.size w9 W)=>HCd.out W (hb29.trans (hb.mono hb29.size)))
   have HV9:=Lib.hid (HV2.out.at hb29)
   have HR1:=Lib.hid (fun W (hb:Below w9.heap.size w9 W)=>show Calls Tryz.prog 25 #[.agg #[.slice X1 D.now.length x1,.slice X2 D.past.length x2],.slice G m gc] W fun e w'=>∃ un up us ov,e=.returned (.tuple #[.agg #[un,up],ov])∧KO w' W.heap.size un up (deskSay D (ls.take m)).1 us∧SO w' W.heap.size ov (deskSay D (ls.take m)).2∧Below W.heap.size W w' from by
    have K:=c_iDeskSay D (ls.take m) _ _ G gc W (k9.up7 hb) hsm (((g9.take m).below hb).more hb.size) (by omega) (by omega) (fun k hk=>by rw [hl1] at hk;rw [show ZS (ls.take m) k=ZS ls k by simp [ZS,List.getD_eq_getElem?_getD,List.getElem?_take_of_lt hk]];exact hT k (by omega)) (HV9.out.at hb)
    rw [hl1] at K
    exact K.mono (by rintro e w' ⟨a1,a2,a3,a4,h1,h2,h3,-,h4⟩;exact ⟨a1,a2,a3,a4,h1,h2,h3,h4⟩))
   have sm1:=say_small (ls:=ls.take m) hsm
   have HX9:=Lib.hid hx9
   have H5:=Lib.hid (fun W (hb:Below w9.heap.size w9 W)=>HC5.out W (hb59.trans (hb.mono hb59.size)))
   have hx9s:=hx9.size
   have HL1:=Lib.hid hl1
   have HGC:=Lib.hid (And.intro hgc hm2)
   have HL2:=Lib.hid hl2
   have HMZ:=Lib.hid (show 0 < ls.length->m < ls.length by omega)
   clear hl1 hl2 hm
   clear hok hb28 hb29 hb58 hb59 hx8 hx9 hx2 hrun
   rw [H1.out]
   generalize hR1:deskSay D (ls.take m)=R1 at HR1 sm1 hparts
   have HRR:=Lib.hid hR1
   clear hR1
   go_upto_region 11 with fail
   go_cut [10,11] from 70 to 77 (fun p10 p11 wy=>∃ (Bx:Nat) (un up:Value),p10=.pointer (some ⟨Bx,0,none⟩)∧∃ (F:Option Addr) (fc:Nat),p11=.slice F R1.2.length fc∧R1.2.length<=fc∧Ss wy wy.heap.size F R1.2∧(∀ W,Below wy.heap.size wy W->W.cell? ⟨Bx,0,none⟩=some un∧W.cell? ⟨Bx,1,none⟩=some up)∧Ks wy wy.heap.size un up R1.1∧Below w9.heap.size w9 wy)
   case first =>
    obtain ⟨Vd,hVd⟩:∃ z,w9.drew=z:=⟨_,rfl⟩
    have hbVd:Below w9.heap.size w9 Vd:=by rw [<- hVd];exact (Below.refl _ w9).drew
    have hzd:=hbVd.size
    obtain ⟨Vz,hVz⟩:∃ z,Vd.alloc (.cells #[.slice none 0 0,.slice none 0 0] 31)=z:=⟨_,rfl⟩
    have hbVz:Below w9.heap.size w9 Vz:=by rw [<- hVz];exact hbVd.alloc hbVd.size _
    have hzz:Vz.heap.size=Vd.heap.size+1:=by rw [<- hVz];simp
    have bz:Vz.heap[Vd.heap.size]?=some (.cells #[.slice none 0 0,.slice none 0 0] 31 (0,0)):=by rw [<- hVz];exact heap_alloc_new _ _
    obtain ⟨l0,l1⟩:=HCd.out w9 (Below.refl _ _)
    obtain ⟨l2,l3⟩:=HCd.out Vd hbVd
    obtain ⟨l4,l5⟩:=HCd.out Vz hbVz
    go_region_with (first
        | (go_at_call 25;(with_reducible refine (HR1.out Vd hbVd).mono ?_);rintro e w6 ⟨yn,yp,ys,yo,rfl,o6,t6,hb6⟩;obtain ⟨F,fc,rfl,hfc,-,-⟩:=t6.form;obtain ⟨A5,c5,A6,c6,rfl,rfl⟩:=o6.slices;have hx6:Below w9.heap.size w9 w6:=hbVd.trans (hb6.mono hbVd.size);obtain ⟨WX,hWX⟩:∃ WX,w6.alloc (.cells #[(.slice A5 R1.1.now.length c5),(.slice A6 R1.1.past.length c6)] 31)=WX:=⟨_,rfl⟩;have hb7:Below w6.heap.size w6 WX:=(by rw [<- hWX];exact (Below.refl _ w6).alloc (Nat.le_refl _) _);have hX:Below w9.heap.size w9 WX:=hx6.trans (hb7.mono hx6.size);have kX:Ks WX WX.heap.size (.slice A5 R1.1.now.length c5) (.slice A6 R1.1.past.length c6) R1.1:=o6.ks.up7 hb7;have tX:=(SO.below t6 hb7 (Nat.le_refl _)).isOf.2;have b7:WX.heap[w6.heap.size]?=some (.cells #[(.slice A5 R1.1.now.length c5),(.slice A6 R1.1.past.length c6)] 31 (0,0)):=(by rw [<- hWX];exact heap_alloc_new _ _);have bX:∃ Bx,Bx=w6.heap.size∧∀ W,Below WX.heap.size WX W->W.cell? ⟨Bx,0,none⟩=some (.slice A5 R1.1.now.length c5)∧W.cell? ⟨Bx,1,none⟩=some (.slice A6 R1.1.past.length c6):=⟨_,rfl,fun W hb=>⟨(two_at ((hb.block w6.heap.size (by have:=(Array.getElem?_eq_some_iff.1 b7).1;omega)).trans b7)).1,(two_at ((hb.block w6.heap.size (by have:=(Array.getElem?_eq_some_iff.1 b7).1;omega)).trans b7)).2.1⟩⟩;have hL7:=HCd.out w6 hx6)
        | (go_at_call 25;(with_reducible refine (HR1.out Vz hbVz).mono ?_);rintro e w6 ⟨yn,yp,ys,yo,rfl,o6,t6,hb6⟩;obtain ⟨F,fc,rfl,hfc,-,-⟩:=t6.form;obtain ⟨A5,c5,A6,c6,rfl,rfl⟩:=o6.slices;have hx6:Below w9.heap.size w9 w6:=hbVz.trans (hb6.mono hbVz.size);have bx:=(hb6.block Vd.heap.size (by omega)).trans bz;have x0':=cell_of_row _ Vd.heap.size 0 _ _ _ bx;have x1':=cell_of_row _ Vd.heap.size 1 _ _ _ bx;have z0:w6.frozen? ⟨Vd.heap.size,0,none⟩=false:=unfrozen_of bx;have z1:w6.frozen? ⟨Vd.heap.size,1,none⟩=false:=unfrozen_of bx;obtain ⟨Wa,hWa⟩:∃ Wa,w6.setCell ⟨Vd.heap.size,0,none⟩ (.slice A5 R1.1.now.length c5)=Wa:=⟨_,rfl⟩;obtain ⟨WX,hWX⟩:∃ WX,Wa.setCell ⟨Vd.heap.size,1,none⟩ (.slice A6 R1.1.past.length c6)=WX:=⟨_,rfl⟩;have bxa:Wa.heap[Vd.heap.size]?=some (.cells #[(.slice A5 R1.1.now.length c5),.slice none 0 0] 31 (0,0)):=(by rw [<- hWa];exact set2a _ bx);have x2':=cell_of_row _ Vd.heap.size 1 _ _ _ bxa;have z2:Wa.frozen? ⟨Vd.heap.size,1,none⟩=false:=unfrozen_of bxa;have b7:WX.heap[Vd.heap.size]?=some (.cells #[(.slice A5 R1.1.now.length c5),(.slice A6 R1.1.past.length c6)] 31 (0,0)):=(by rw [<- hWX];exact set2b _ bxa);have hgZ:w6.grownBy WX (some Vd.heap.size):=(by rw [<- hWX,<- hWa];exact W2_grown _ _ _ _);have hX:Below w9.heap.size w9 WX:=hx6.grown hgZ (by have:=hx6.size;omega) (fun k e=>by cases e;exact hbVd.size);have kX:Ks WX WX.heap.size (.slice A5 R1.1.now.length c5) (.slice A6 R1.1.past.length c6) R1.1:=(o6.keptLow hgZ (by omega)).ks;have tX:=(SO.grown7 t6 hgZ (fun k e=>by cases e;omega)).isOf.2;have bX:∃ Bx,Bx=Vd.heap.size∧∀ W,Below WX.heap.size WX W->W.cell? ⟨Bx,0,none⟩=some (.slice A5 R1.1.now.length c5)∧W.cell? ⟨Bx,1,none⟩=some (.slice A6 R1.1.past.length c6):=⟨_,rfl,fun W hb=>⟨(two_at ((hb.block Vd.heap.size (by have:=(Array.getElem?_eq_some_iff.1 b7).1;omega)).trans b7)).1,(two_at ((hb.block Vd.heap.size (by have:=(Array.getElem?_eq_some_iff.1 b7).1;omega)).trans b7)).2.1⟩⟩;have hL7:=HCd.out w6 hx6))
    all_goals
     obtain ⟨Bx,hBx,HBx⟩:=bX
     subst hBx
     try go_wp2_with fail
     go_meet
     case rel=>exact ⟨_,_,_,rfl,_,_,rfl,hfc,tX,HBx,kX,hX⟩
   case rest =>
    clear HR1
    obtain ⟨Ba,an,ap,rfl,F1,fc1,rfl,hfc1,hF1,HCa,ka,hba⟩:=hcut
    obtain ⟨A1,a1,A2,a2,rfl,rfl⟩:=ka.slices
    have HCa:=Lib.hid HCa
    have g10:=(g9.below hba).more hba.size
    obtain ⟨V10,hVV⟩:∃ z,z=wc:=⟨_,rfl⟩
    subst hVV
    have HBA:=Lib.hid hba
    have HVa:=Lib.hid (HV9.out.at hba)
    clear hba
    by_cases hz:ls.length=0
    ·obtain rfl:=List.eq_nil_of_length_eq_zero hz
     have hm0:m=0:=by have:=HGC.out.2;simp at this;exact this
     subst hm0
     have HR2:=Lib.hid (fun (A':Option Addr) (c':Nat) W (hb:Below V10.heap.size V10 W)=>show Calls Tryz.prog 25 #[.agg #[.slice A1 R1.1.now.length a1,.slice A2 R1.1.past.length a2],.slice A' 0 c'] W fun e w'=>∃ un up us ov,e=.returned (.tuple #[.agg #[un,up],ov])∧KO w' W.heap.size un up (deskSay R1.1 []).1 us∧SO w' W.heap.size ov (deskSay R1.1 []).2∧Below W.heap.size W w' from
      (c_iDeskSay R1.1 [] _ _ A' c' W (ka.up7 hb) sm1 (fun h=>by simp at h) (by simp) (by simp) (fun k hk=>by simp at hk) (HVa.out.at hb)).mono (by rintro e w' ⟨a1,a2,a3,a4,h1,h2,h3,-,h4⟩;exact ⟨a1,a2,a3,a4,h1,h2,h3,h4⟩))
     have sm2:=say_small (ls:=[]) sm1
     have hparts:=Lib.hid (show (deskSay R1.1 []).1=(deskSay D []).1∧R1.2++(deskSay R1.1 []).2=(deskSay D []).2 from hparts.out)
     generalize hR2:deskSay R1.1 []=R2 at HR2 sm2 hparts
     have HRS:=Lib.hid hR2
     clear hR2 hz
     rcases hgs with ⟨rfl,rfl⟩ | ⟨gb,rfl⟩
     ·go_upto_region 12 with fail
      go_cut [12,13] from 78 to 85 (fun p12 p13 wy=>∃ (Bx:Nat) (un up:Value),p12=.pointer (some ⟨Bx,0,none⟩)∧∃ (F:Option Addr) (fc:Nat),p13=.slice F R2.2.length fc∧R2.2.length<=fc∧Ss wy wy.heap.size F R2.2∧(∀ W,Below wy.heap.size wy W->W.cell? ⟨Bx,0,none⟩=some un∧W.cell? ⟨Bx,1,none⟩=some up)∧Ks wy wy.heap.size un up R2.1∧Below V10.heap.size V10 wy)
      case first =>
       obtain ⟨Vd,hVd⟩:∃ z,V10.drew=z:=⟨_,rfl⟩
       have hbVd:Below V10.heap.size V10 Vd:=by rw [<- hVd];exact (Below.refl _ V10).drew
       have hzd:=hbVd.size
       obtain ⟨Vz,hVz⟩:∃ z,Vd.alloc (.cells #[.slice none 0 0,.slice none 0 0] 31)=z:=⟨_,rfl⟩
       have hbVz:Below V10.heap.size V10 Vz:=by rw [<- hVz];exact hbVd.alloc hbVd.size _
       have hzz:Vz.heap.size=Vd.heap.size+1:=by rw [<- hVz];simp
       have bz:Vz.heap[Vd.heap.size]?=some (.cells #[.slice none 0 0,.slice none 0 0] 31 (0,0)):=by rw [<- hVz];exact heap_alloc_new _ _
       obtain ⟨l0,l1⟩:=HCa.out V10 (Below.refl _ _)
       obtain ⟨l2,l3⟩:=HCa.out Vd hbVd
       obtain ⟨l4,l5⟩:=HCa.out Vz hbVz
       go_region_with (first
           | (go_at_call 25;(with_reducible refine (HR2.out _ _ Vd hbVd).mono ?_);rintro e w6 ⟨yn,yp,ys,yo,rfl,o6,t6,hb6⟩;obtain ⟨F,fc,rfl,hfc,-,-⟩:=t6.form;obtain ⟨A5,c5,A6,c6,rfl,rfl⟩:=o6.slices;have hx6:Below V10.heap.size V10 w6:=hbVd.trans (hb6.mono hbVd.size);obtain ⟨WX,hWX⟩:∃ WX,w6.alloc (.cells #[(.slice A5 R2.1.now.length c5),(.slice A6 R2.1.past.length c6)] 31)=WX:=⟨_,rfl⟩;have hb7:Below w6.heap.size w6 WX:=(by rw [<- hWX];exact (Below.refl _ w6).alloc (Nat.le_refl _) _);have hX:Below V10.heap.size V10 WX:=hx6.trans (hb7.mono hx6.size);have kX:Ks WX WX.heap.size (.slice A5 R2.1.now.length c5) (.slice A6 R2.1.past.length c6) R2.1:=o6.ks.up7 hb7;have tX:=(SO.below t6 hb7 (Nat.le_refl _)).isOf.2;have b7:WX.heap[w6.heap.size]?=some (.cells #[(.slice A5 R2.1.now.length c5),(.slice A6 R2.1.past.length c6)] 31 (0,0)):=(by rw [<- hWX];exact heap_alloc_new _ _);have bX:∃ Bx,Bx=w6.heap.size∧∀ W,Below WX.heap.size WX W->W.cell? ⟨Bx,0,none⟩=some (.slice A5 R2.1.now.length c5)∧W.cell? ⟨Bx,1,none⟩=some (.slice A6 R2.1.past.length c6):=⟨_,rfl,fun W hb=>⟨(two_at ((hb.block w6.heap.size (by have:=(Array.getElem?_eq_some_iff.1 b7).1;omega)).trans b7)).1,(two_at ((hb.block w6.heap.size (by have:=(Array.getElem?_eq_some_iff.1 b7).1;omega)).trans b7)).2.1⟩⟩;have hL7:=HCa.out w6 hx6)
           | (go_at_call 25;(with_reducible refine (HR2.out _ _ Vz hbVz).mono ?_);rintro e w6 ⟨yn,yp,ys,yo,rfl,o6,t6,hb6⟩;obtain ⟨F,fc,rfl,hfc,-,-⟩:=t6.form;obtain ⟨A5,c5,A6,c6,rfl,rfl⟩:=o6.slices;have hx6:Below V10.heap.size V10 w6:=hbVz.trans (hb6.mono hbVz.size);have bx:=(hb6.block Vd.heap.size (by omega)).trans bz;have x0':=cell_of_row _ Vd.heap.size 0 _ _ _ bx;have x1':=cell_of_row _ Vd.heap.size 1 _ _ _ bx;have z0:w6.frozen? ⟨Vd.heap.size,0,none⟩=false:=unfrozen_of bx;have z1:w6.frozen? ⟨Vd.heap.size,1,none⟩=false:=unfrozen_of bx;obtain ⟨Wa,hWa⟩:∃ Wa,w6.setCell ⟨Vd.heap.size,0,none⟩ (.slice A5 R2.1.now.length c5)=Wa:=⟨_,rfl⟩;obtain ⟨WX,hWX⟩:∃ WX,Wa.setCell ⟨Vd.heap.size,1,none⟩ (.slice A6 R2.1.past.length c6)=WX:=⟨_,rfl⟩;have bxa:Wa.heap[Vd.heap.size]?=some (.cells #[(.slice A5 R2.1.now.length c5),.slice none 0 0] 31 (0,0)):=(by rw [<- hWa];exact set2a _ bx);have x2':=cell_of_row _ Vd.heap.size 1 _ _ _ bxa;have z2:Wa.frozen? ⟨Vd.heap.size,1,none⟩=false:=unfrozen_of bxa;have b7:WX.heap[Vd.heap.size]?=some (.cells #[(.slice A5 R2.1.now.length c5),(.slice A6 R2.1.past.length c6)] 31 (0,0)):=(by rw [<- hWX];exact set2b _ bxa);have hgZ:w6.grownBy WX (some Vd.heap.size):=(by rw [<- hWX,<- hWa];exact W2_grown _ _ _ _);have hX:Below V10.heap.size V10 WX:=hx6.grown hgZ (by have:=hx6.size;omega) (fun k e=>by cases e;exact hbVd.size);have kX:Ks WX WX.heap.size (.slice A5 R2.1.now.length c5) (.slice A6 R2.1.past.length c6) R2.1:=(o6.keptLow hgZ (by omega)).ks;have tX:=(SO.grown7 t6 hgZ (fun k e=>by cases e;omega)).isOf.2;have bX:∃ Bx,Bx=Vd.heap.size∧∀ W,Below WX.heap.size WX W->W.cell? ⟨Bx,0,none⟩=some (.slice A5 R2.1.now.length c5)∧W.cell? ⟨Bx,1,none⟩=some (.slice A6 R2.1.past.length c6):=⟨_,rfl,fun W hb=>⟨(two_at ((hb.block Vd.heap.size (by have:=(Array.getElem?_eq_some_iff.1 b7).1;omega)).trans b7)).1,(two_at ((hb.block Vd.heap.size (by have:=(Array.getElem?_eq_some_iff.1 b7).1;omega)).trans b7)).2.1⟩⟩;have hL7:=HCa.out w6 hx6))
       all_goals
        obtain ⟨Bx,hBx,HBx⟩:=bX
        subst hBx
        try go_wp2_with fail
        go_meet
        case rel=>exact ⟨_,_,_,rfl,_,_,rfl,hfc,tX,HBx,kX,hX⟩
      case rest =>
      obtain ⟨Bc,cn,cp,rfl,F2,fc2,rfl,hfc2,hF2,HCc,kc,hbc⟩:=hcut
      obtain ⟨C1,c1,C2,c2,rfl,rfl⟩:=kc.slices
      have hba2:=HBA.out.trans (hbc.mono HBA.out.size)
      have kxc:=kx9.up7 hba2
      have HF1:=Lib.hid (fun W (hb:Below wc.heap.size wc W)=>((hF1.below hbc).more hbc.size).below hb |>.more hb.size)
      have HF2:=Lib.hid (fun W (hb:Below wc.heap.size wc W)=>(hF2.below hb).more hb.size)
      have HE:=Lib.hid (fun W (hb:Below wc.heap.size wc W)=>(((e9.below hba2).more hba2.size).below hb).more hb.size)
      have HCc:=Lib.hid HCc
      have HP:=Lib.hid hparts.out
      have HLn:=Lib.hid (line_least HXok.out)
      have HSX:=Lib.hid (fun W (hb:Below wc.heap.size wc W)=>show Calls Tryz.prog 18 #[.agg #[.slice C1 R2.1.now.length c1,.slice C2 R2.1.past.length c2],.agg #[.slice Y1 (deskSay D []).1.now.length y1,.slice Y2 (deskSay D []).1.past.length y2]] W fun e w'=>e=.returned (.bool true)∧Below W.heap.size W w' from by
       have K:=c_sameDesk R2.1 (deskSay D []).1 _ _ _ _ W (kc.up7 hb) (kxc.up7 hb) sm2 smX
       rw [show eqK R2.1 (deskSay D []).1=true by rw [HP.out.1];exact eqK_self _] at K
       exact K)
      have HQ1:=Lib.hid (fun W (hb:Below wc.heap.size wc W)=>lineT (deskSay D []).1 _ _ wLeast W (kxc.up7 hb) smX (by decide) (HV9.out.at (hba2.trans (hb.mono hba2.size))))
      rw [HLn.out.1] at HQ1
      have HQ2:=Lib.hid (fun W (hb:Below wc.heap.size wc W)=>lineT (deskSay D []).1 _ _ wSum2 W (kxc.up7 hb) smX (by decide) (HV9.out.at (hba2.trans (hb.mono hba2.size))))
      rw [HLn.out.2] at HQ2
      have HTn:=Lib.hid (numL_nn (leastV (deskSay D []).1.now).toNat)
      generalize numL (leastV (deskSay D []).1.now).toNat=T at HQ1 HQ2 HTn
      have H5c:=Lib.hid (fun W (hb:Below wc.heap.size wc W)=>H5.out W (hba2.trans (hb.mono hba2.size)))
      have HX:=Lib.hid (HX9.out.trans (hba2.mono HX9.out.size))
      clear hparts kc hbc kxc hba2 hF1 hF2 e9 HLn
      go_wp2_with fail
      go_loopw [14] (fun kv wr=>∃ k:Nat,kv=.int .i64 (k:Int)∧k<=(deskSay D []).2.length∧wc=wr) (fun kv _=>(deskSay D []).2.length - (intOf kv).toNat)
      case atStart=>exact ⟨0,rfl,Nat.zero_le _,rfl⟩
      case round =>
       obtain ⟨k,rfl,hk,hwc⟩:=hrel
       subst hwc
       by_cases hkl:k < (deskSay D []).2.length
       ·obtain ⟨eb,eo,rfl,-,hec⟩:=HE.out wc (Below.refl _ _) (by omega)
        have q:=hec k hkl
        have hne:=HNE.out k hkl
        have h0:(bs (ZS (deskSay D []).2 k)).toList.isEmpty=false:=by rw [bs_list];cases hh:ZS (deskSay D []).2 k with | nil=>exact (hne hh).elim | cons x y=>rfl
        have h00:¬ (bs (ZS (deskSay D []).2 k)).toList=[]:=by rw [bs_list];exact hne
        have hsm9:=HYS.out
        clear hne hec
        go_wp2_with fail
        go_roundw
        case rel=>exact ⟨k+1,by go_num,by omega,by first | rfl | trivial⟩
        case measure=>simp [intOf];omega
       ·have hkl':¬ (k:Int) < ((deskSay D []).2.length:Int):=by omega
        obtain ⟨q0,q1⟩:=H5c.out _ (Below.refl _ wc)
        go_wp2_with fail
        refine (HQ1.out _ (Below.refl _ _)).mono ?_
        rintro e u1 ⟨A1',a1',A2',a2',n1',n2',rfl,hu1⟩
        obtain ⟨u2,hu2,hz2',hbu2,-⟩:=laidK u1 (.slice A1' n1' a1') (.slice A2' n2' a2')
        have hxu2:=hu1.trans (hbu2.mono hu1.size)
        clear q0 q1 hu1 hbu2 hk hkl hkl'
        obtain ⟨q0,q1⟩:=H5c.out _ hxu2
        go_wp2_with fail
        clear hu2 hz2'
        refine (HQ2.out _ hxu2).mono ?_
        rintro e u3 ⟨A3',a3',A4',a4',n3',n4',rfl,hu3⟩
        obtain ⟨u4,hu4,hz4',hbu4,-⟩:=laidK u3 (.slice A3' n3' a3') (.slice A4' n4' a4')
        have hxu4:=hxu2.trans ((hu3.trans (hbu4.mono hu3.size)).mono hxu2.size)
        clear q0 q1 hu3 hbu4 hxu2
        obtain ⟨q0,q1⟩:=H5c.out _ hxu4
        obtain ⟨q2,q3⟩:=HCc.out _ hxu4
        go_wp2_with fail
        clear hu4 hz4'
        refine (HSX.out _ hxu4).mono ?_
        rintro e u5 ⟨rfl,hb5'⟩
        have hxu5:=hxu4.trans (hb5'.mono hxu4.size)
        clear q0 q1 q2 q3 hb5' hxu4
        obtain ⟨u6,hu6⟩:∃ z,u5.alloc (.cells #[] 9)=z:=⟨_,rfl⟩
        have hb6':Below u5.heap.size u5 u6:=by rw [<- hu6];exact (Below.refl _ u5).alloc (Nat.le_refl _) _
        have o6':SO u6 u5.heap.size (.slice (some ⟨u5.heap.size,0,none⟩) 0 0) []:=by rw [<- hu6];exact SO.empty _ (Nat.le_refl _)
        have hxu6:=hxu5.trans (hb6'.mono hxu5.size)
        have HO6:=Lib.hid o6'
        have f6:=(HF1.out _ hxu5).below hb6'
        have g6:=(HF2.out _ hxu5).below hb6'
        have hlen12:R1.2.length+R2.2.length<=41:=by have:=congrArg List.length HP.out.2;rw [List.length_append] at this;have:=HYS.out;omega
        have hsz6:=hb6'.size
        have HU:=Lib.hid (And.intro f6 (And.intro g6 (And.intro hlen12 hsz6)))
        have hlT:(((deskSay D []).2.length:Int) == 0)=true:=by rw [HYL.out];rfl
        have hTT:((bs T).toList == (bs T).toList)=true:=beq_self_eq_true _
        have hT0:(bs T).toList.isEmpty=false:=by rw [bs_list];have:=HTn.out;cases T with | nil=>exact (this rfl).elim | cons x y=>rfl
        have hT00:¬ (bs T).toList=[]:=by rw [bs_list];exact HTn.out
        have HB6:=Lib.hid hb6'
        clear f6 g6 hlen12 hsz6 o6' hb6'
        go_wp2_with (first | (refine app_SN ?_ (.tmp 113) (.tmp 114) ?_ u5.heap.size (.slice g7 R1.2.length cap) R1.2 R2.2 F2 fc2 u5.heap.size ?_ ?_ ?_ ?_ ?_ ?_ ?_;rfl;rfl;rfl;exact hown7;rfl;exact HU.out.2.1.below hb7;(have:=HU.out.2.2.1;omega);(have:=HU.out.2.2.2;have:=hb7.size;omega);intro g8 cap8 u8 hown8 hgr8 hb8) | (refine app_SN ?_ (.tmp 111) (.tmp 112) ?_ u5.heap.size (.slice (some ⟨u5.heap.size,0,none⟩) 0 0) [] R1.2 F1 fc1 u5.heap.size ?_ ?_ ?_ ?_ ?_ ?_ ?_;rfl;rfl;rfl;exact HO6.out;rfl;exact HU.out.1;(simp only [List.length_nil];have:=HU.out.2.2.1;omega);exact HU.out.2.2.2;intro g7 cap u7 hown7 hgr7 hb7;simp only [List.length_nil,Nat.zero_add,List.nil_append] at hown7))
        have hxu8:=hxu6.trans ((hb7.trans (hb8.mono (Nat.le_refl _))).mono hxu5.size)
        have K:=c_sameTexts (R1.2++R2.2) (deskSay D []).2 g8 E _ _ cap8 ec u8 (SO.isOf (by rw [<- List.length_append] at hown8;exact hown8)).2 (HE.out _ hxu8) (by rw [List.length_append];have:=HU.out.2.2.1;omega) (by have:=HYS.out;omega)
        rw [decide_eq_true HP.out.2,List.length_append] at K
        refine K.mono ?_
        rintro e u9 ⟨rfl,hb9'⟩
        have hxu9:=hxu8.trans (hb9'.mono hxu8.size)
        clear K
        go_wp2_with fail
        refine (c_alive _).mono ?_
        rintro e u10 ⟨rfl,hb10'⟩
        go_wp2_with fail
        go_ret
        exact ⟨rfl,HX.out.trans ((hxu9.trans (hb10'.mono hxu9.size)).mono HX.out.size)⟩
     ·rcases Nat.eq_zero_or_pos gc with rfl | hgp
      ·go_upto_region 12 with fail
       go_cut [12,13] from 78 to 85 (fun p12 p13 wy=>∃ (Bx:Nat) (un up:Value),p12=.pointer (some ⟨Bx,0,none⟩)∧∃ (F:Option Addr) (fc:Nat),p13=.slice F R2.2.length fc∧R2.2.length<=fc∧Ss wy wy.heap.size F R2.2∧(∀ W,Below wy.heap.size wy W->W.cell? ⟨Bx,0,none⟩=some un∧W.cell? ⟨Bx,1,none⟩=some up)∧Ks wy wy.heap.size un up R2.1∧Below V10.heap.size V10 wy)
       case first =>
        obtain ⟨Vd,hVd⟩:∃ z,V10.drew=z:=⟨_,rfl⟩
        have hbVd:Below V10.heap.size V10 Vd:=by rw [<- hVd];exact (Below.refl _ V10).drew
        have hzd:=hbVd.size
        obtain ⟨Vz,hVz⟩:∃ z,Vd.alloc (.cells #[.slice none 0 0,.slice none 0 0] 31)=z:=⟨_,rfl⟩
        have hbVz:Below V10.heap.size V10 Vz:=by rw [<- hVz];exact hbVd.alloc hbVd.size _
        have hzz:Vz.heap.size=Vd.heap.size+1:=by rw [<- hVz];simp
        have bz:Vz.heap[Vd.heap.size]?=some (.cells #[.slice none 0 0,.slice none 0 0] 31 (0,0)):=by rw [<- hVz];exact heap_alloc_new _ _
        obtain ⟨l0,l1⟩:=HCa.out V10 (Below.refl _ _)
        obtain ⟨l2,l3⟩:=HCa.out Vd hbVd
        obtain ⟨l4,l5⟩:=HCa.out Vz hbVz
        go_region_with (first
            | (go_at_call 25;(with_reducible refine (HR2.out _ _ Vd hbVd).mono ?_);rintro e w6 ⟨yn,yp,ys,yo,rfl,o6,t6,hb6⟩;obtain ⟨F,fc,rfl,hfc,-,-⟩:=t6.form;obtain ⟨A5,c5,A6,c6,rfl,rfl⟩:=o6.slices;have hx6:Below V10.heap.size V10 w6:=hbVd.trans (hb6.mono hbVd.size);obtain ⟨WX,hWX⟩:∃ WX,w6.alloc (.cells #[(.slice A5 R2.1.now.length c5),(.slice A6 R2.1.past.length c6)] 31)=WX:=⟨_,rfl⟩;have hb7:Below w6.heap.size w6 WX:=(by rw [<- hWX];exact (Below.refl _ w6).alloc (Nat.le_refl _) _);have hX:Below V10.heap.size V10 WX:=hx6.trans (hb7.mono hx6.size);have kX:Ks WX WX.heap.size (.slice A5 R2.1.now.length c5) (.slice A6 R2.1.past.length c6) R2.1:=o6.ks.up7 hb7;have tX:=(SO.below t6 hb7 (Nat.le_refl _)).isOf.2;have b7:WX.heap[w6.heap.size]?=some (.cells #[(.slice A5 R2.1.now.length c5),(.slice A6 R2.1.past.length c6)] 31 (0,0)):=(by rw [<- hWX];exact heap_alloc_new _ _);have bX:∃ Bx,Bx=w6.heap.size∧∀ W,Below WX.heap.size WX W->W.cell? ⟨Bx,0,none⟩=some (.slice A5 R2.1.now.length c5)∧W.cell? ⟨Bx,1,none⟩=some (.slice A6 R2.1.past.length c6):=⟨_,rfl,fun W hb=>⟨(two_at ((hb.block w6.heap.size (by have:=(Array.getElem?_eq_some_iff.1 b7).1;omega)).trans b7)).1,(two_at ((hb.block w6.heap.size (by have:=(Array.getElem?_eq_some_iff.1 b7).1;omega)).trans b7)).2.1⟩⟩;have hL7:=HCa.out w6 hx6)
            | (go_at_call 25;(with_reducible refine (HR2.out _ _ Vz hbVz).mono ?_);rintro e w6 ⟨yn,yp,ys,yo,rfl,o6,t6,hb6⟩;obtain ⟨F,fc,rfl,hfc,-,-⟩:=t6.form;obtain ⟨A5,c5,A6,c6,rfl,rfl⟩:=o6.slices;have hx6:Below V10.heap.size V10 w6:=hbVz.trans (hb6.mono hbVz.size);have bx:=(hb6.block Vd.heap.size (by omega)).trans bz;have x0':=cell_of_row _ Vd.heap.size 0 _ _ _ bx;have x1':=cell_of_row _ Vd.heap.size 1 _ _ _ bx;have z0:w6.frozen? ⟨Vd.heap.size,0,none⟩=false:=unfrozen_of bx;have z1:w6.frozen? ⟨Vd.heap.size,1,none⟩=false:=unfrozen_of bx;obtain ⟨Wa,hWa⟩:∃ Wa,w6.setCell ⟨Vd.heap.size,0,none⟩ (.slice A5 R2.1.now.length c5)=Wa:=⟨_,rfl⟩;obtain ⟨WX,hWX⟩:∃ WX,Wa.setCell ⟨Vd.heap.size,1,none⟩ (.slice A6 R2.1.past.length c6)=WX:=⟨_,rfl⟩;have bxa:Wa.heap[Vd.heap.size]?=some (.cells #[(.slice A5 R2.1.now.length c5),.slice none 0 0] 31 (0,0)):=(by rw [<- hWa];exact set2a _ bx);have x2':=cell_of_row _ Vd.heap.size 1 _ _ _ bxa;have z2:Wa.frozen? ⟨Vd.heap.size,1,none⟩=false:=unfrozen_of bxa;have b7:WX.heap[Vd.heap.size]?=some (.cells #[(.slice A5 R2.1.now.length c5),(.slice A6 R2.1.past.length c6)] 31 (0,0)):=(by rw [<- hWX];exact set2b _ bxa);have hgZ:w6.grownBy WX (some Vd.heap.size):=(by rw [<- hWX,<- hWa];exact W2_grown _ _ _ _);have hX:Below V10.heap.size V10 WX:=hx6.grown hgZ (by have:=hx6.size;omega) (fun k e=>by cases e;exact hbVd.size);have kX:Ks WX WX.heap.size (.slice A5 R2.1.now.length c5) (.slice A6 R2.1.past.length c6) R2.1:=(o6.keptLow hgZ (by omega)).ks;have tX:=(SO.grown7 t6 hgZ (fun k e=>by cases e;omega)).isOf.2;have bX:∃ Bx,Bx=Vd.heap.size∧∀ W,Below WX.heap.size WX W->W.cell? ⟨Bx,0,none⟩=some (.slice A5 R2.1.now.length c5)∧W.cell? ⟨Bx,1,none⟩=some (.slice A6 R2.1.past.length c6):=⟨_,rfl,fun W hb=>⟨(two_at ((hb.block Vd.heap.size (by have:=(Array.getElem?_eq_some_iff.1 b7).1;omega)).trans b7)).1,(two_at ((hb.block Vd.heap.size (by have:=(Array.getElem?_eq_some_iff.1 b7).1;omega)).trans b7)).2.1⟩⟩;have hL7:=HCa.out w6 hx6))
        all_goals
         obtain ⟨Bx,hBx,HBx⟩:=bX
         subst hBx
         try go_wp2_with fail
         go_meet
         case rel=>exact ⟨_,_,_,rfl,_,_,rfl,hfc,tX,HBx,kX,hX⟩
       case rest =>
       obtain ⟨Bc,cn,cp,rfl,F2,fc2,rfl,hfc2,hF2,HCc,kc,hbc⟩:=hcut
       obtain ⟨C1,c1,C2,c2,rfl,rfl⟩:=kc.slices
       have hba2:=HBA.out.trans (hbc.mono HBA.out.size)
       have kxc:=kx9.up7 hba2
       have HF1:=Lib.hid (fun W (hb:Below wc.heap.size wc W)=>((hF1.below hbc).more hbc.size).below hb |>.more hb.size)
       have HF2:=Lib.hid (fun W (hb:Below wc.heap.size wc W)=>(hF2.below hb).more hb.size)
       have HE:=Lib.hid (fun W (hb:Below wc.heap.size wc W)=>(((e9.below hba2).more hba2.size).below hb).more hb.size)
       have HCc:=Lib.hid HCc
       have HP:=Lib.hid hparts.out
       have HLn:=Lib.hid (line_least HXok.out)
       have HSX:=Lib.hid (fun W (hb:Below wc.heap.size wc W)=>show Calls Tryz.prog 18 #[.agg #[.slice C1 R2.1.now.length c1,.slice C2 R2.1.past.length c2],.agg #[.slice Y1 (deskSay D []).1.now.length y1,.slice Y2 (deskSay D []).1.past.length y2]] W fun e w'=>e=.returned (.bool true)∧Below W.heap.size W w' from by
        have K:=c_sameDesk R2.1 (deskSay D []).1 _ _ _ _ W (kc.up7 hb) (kxc.up7 hb) sm2 smX
        rw [show eqK R2.1 (deskSay D []).1=true by rw [HP.out.1];exact eqK_self _] at K
        exact K)
       have HQ1:=Lib.hid (fun W (hb:Below wc.heap.size wc W)=>lineT (deskSay D []).1 _ _ wLeast W (kxc.up7 hb) smX (by decide) (HV9.out.at (hba2.trans (hb.mono hba2.size))))
       rw [HLn.out.1] at HQ1
       have HQ2:=Lib.hid (fun W (hb:Below wc.heap.size wc W)=>lineT (deskSay D []).1 _ _ wSum2 W (kxc.up7 hb) smX (by decide) (HV9.out.at (hba2.trans (hb.mono hba2.size))))
       rw [HLn.out.2] at HQ2
       have HTn:=Lib.hid (numL_nn (leastV (deskSay D []).1.now).toNat)
       generalize numL (leastV (deskSay D []).1.now).toNat=T at HQ1 HQ2 HTn
       have H5c:=Lib.hid (fun W (hb:Below wc.heap.size wc W)=>H5.out W (hba2.trans (hb.mono hba2.size)))
       have HX:=Lib.hid (HX9.out.trans (hba2.mono HX9.out.size))
       clear hparts kc hbc kxc hba2 hF1 hF2 e9 HLn
       go_wp2_with fail
       go_loopw [14] (fun kv wr=>∃ k:Nat,kv=.int .i64 (k:Int)∧k<=(deskSay D []).2.length∧wc=wr) (fun kv _=>(deskSay D []).2.length - (intOf kv).toNat)
       case atStart=>exact ⟨0,rfl,Nat.zero_le _,rfl⟩
       case round =>
        obtain ⟨k,rfl,hk,hwc⟩:=hrel
        subst hwc
        by_cases hkl:k < (deskSay D []).2.length
        ·obtain ⟨eb,eo,rfl,-,hec⟩:=HE.out wc (Below.refl _ _) (by omega)
         have q:=hec k hkl
         have hne:=HNE.out k hkl
         have h0:(bs (ZS (deskSay D []).2 k)).toList.isEmpty=false:=by rw [bs_list];cases hh:ZS (deskSay D []).2 k with | nil=>exact (hne hh).elim | cons x y=>rfl
         have h00:¬ (bs (ZS (deskSay D []).2 k)).toList=[]:=by rw [bs_list];exact hne
         have hsm9:=HYS.out
         clear hne hec
         go_wp2_with fail
         go_roundw
         case rel=>exact ⟨k+1,by go_num,by omega,by first | rfl | trivial⟩
         case measure=>simp [intOf];omega
        ·have hkl':¬ (k:Int) < ((deskSay D []).2.length:Int):=by omega
         obtain ⟨q0,q1⟩:=H5c.out _ (Below.refl _ wc)
         go_wp2_with fail
         refine (HQ1.out _ (Below.refl _ _)).mono ?_
         rintro e u1 ⟨A1',a1',A2',a2',n1',n2',rfl,hu1⟩
         obtain ⟨u2,hu2,hz2',hbu2,-⟩:=laidK u1 (.slice A1' n1' a1') (.slice A2' n2' a2')
         have hxu2:=hu1.trans (hbu2.mono hu1.size)
         clear q0 q1 hu1 hbu2 hk hkl hkl'
         obtain ⟨q0,q1⟩:=H5c.out _ hxu2
         go_wp2_with fail
         clear hu2 hz2'
         refine (HQ2.out _ hxu2).mono ?_
         rintro e u3 ⟨A3',a3',A4',a4',n3',n4',rfl,hu3⟩
         obtain ⟨u4,hu4,hz4',hbu4,-⟩:=laidK u3 (.slice A3' n3' a3') (.slice A4' n4' a4')
         have hxu4:=hxu2.trans ((hu3.trans (hbu4.mono hu3.size)).mono hxu2.size)
         clear q0 q1 hu3 hbu4 hxu2
         obtain ⟨q0,q1⟩:=H5c.out _ hxu4
         obtain ⟨q2,q3⟩:=HCc.out _ hxu4
         go_wp2_with fail
         clear hu4 hz4'
         refine (HSX.out _ hxu4).mono ?_
         rintro e u5 ⟨rfl,hb5'⟩
         have hxu5:=hxu4.trans (hb5'.mono hxu4.size)
         clear q0 q1 q2 q3 hb5' hxu4
         obtain ⟨u6,hu6⟩:∃ z,u5.alloc (.cells #[] 9)=z:=⟨_,rfl⟩
         have hb6':Below u5.heap.size u5 u6:=by rw [<- hu6];exact (Below.refl _ u5).alloc (Nat.le_refl _) _
         have o6':SO u6 u5.heap.size (.slice (some ⟨u5.heap.size,0,none⟩) 0 0) []:=by rw [<- hu6];exact SO.empty _ (Nat.le_refl _)
         have hxu6:=hxu5.trans (hb6'.mono hxu5.size)
         have HO6:=Lib.hid o6'
         have f6:=(HF1.out _ hxu5).below hb6'
         have g6:=(HF2.out _ hxu5).below hb6'
         have hlen12:R1.2.length+R2.2.length<=41:=by have:=congrArg List.length HP.out.2;rw [List.length_append] at this;have:=HYS.out;omega
         have hsz6:=hb6'.size
         have HU:=Lib.hid (And.intro f6 (And.intro g6 (And.intro hlen12 hsz6)))
         have hlT:(((deskSay D []).2.length:Int) == 0)=true:=by rw [HYL.out];rfl
         have hTT:((bs T).toList == (bs T).toList)=true:=beq_self_eq_true _
         have hT0:(bs T).toList.isEmpty=false:=by rw [bs_list];have:=HTn.out;cases T with | nil=>exact (this rfl).elim | cons x y=>rfl
         have hT00:¬ (bs T).toList=[]:=by rw [bs_list];exact HTn.out
         have HB6:=Lib.hid hb6'
         clear f6 g6 hlen12 hsz6 o6' hb6'
         go_wp2_with (first | (refine app_SN ?_ (.tmp 113) (.tmp 114) ?_ u5.heap.size (.slice g7 R1.2.length cap) R1.2 R2.2 F2 fc2 u5.heap.size ?_ ?_ ?_ ?_ ?_ ?_ ?_;rfl;rfl;rfl;exact hown7;rfl;exact HU.out.2.1.below hb7;(have:=HU.out.2.2.1;omega);(have:=HU.out.2.2.2;have:=hb7.size;omega);intro g8 cap8 u8 hown8 hgr8 hb8) | (refine app_SN ?_ (.tmp 111) (.tmp 112) ?_ u5.heap.size (.slice (some ⟨u5.heap.size,0,none⟩) 0 0) [] R1.2 F1 fc1 u5.heap.size ?_ ?_ ?_ ?_ ?_ ?_ ?_;rfl;rfl;rfl;exact HO6.out;rfl;exact HU.out.1;(simp only [List.length_nil];have:=HU.out.2.2.1;omega);exact HU.out.2.2.2;intro g7 cap u7 hown7 hgr7 hb7;simp only [List.length_nil,Nat.zero_add,List.nil_append] at hown7))
         have hxu8:=hxu6.trans ((hb7.trans (hb8.mono (Nat.le_refl _))).mono hxu5.size)
         have K:=c_sameTexts (R1.2++R2.2) (deskSay D []).2 g8 E _ _ cap8 ec u8 (SO.isOf (by rw [<- List.length_append] at hown8;exact hown8)).2 (HE.out _ hxu8) (by rw [List.length_append];have:=HU.out.2.2.1;omega) (by have:=HYS.out;omega)
         rw [decide_eq_true HP.out.2,List.length_append] at K
         refine K.mono ?_
         rintro e u9 ⟨rfl,hb9'⟩
         have hxu9:=hxu8.trans (hb9'.mono hxu8.size)
         clear K
         go_wp2_with fail
         refine (c_alive _).mono ?_
         rintro e u10 ⟨rfl,hb10'⟩
         go_wp2_with fail
         go_ret
         exact ⟨rfl,HX.out.trans ((hxu9.trans (hb10'.mono hxu9.size)).mono HX.out.size)⟩
      ·have hgp2:(0:Int) < (gc:Int):=by omega
       go_upto_region 12 with fail
       go_cut [12,13] from 78 to 85 (fun p12 p13 wy=>∃ (Bx:Nat) (un up:Value),p12=.pointer (some ⟨Bx,0,none⟩)∧∃ (F:Option Addr) (fc:Nat),p13=.slice F R2.2.length fc∧R2.2.length<=fc∧Ss wy wy.heap.size F R2.2∧(∀ W,Below wy.heap.size wy W->W.cell? ⟨Bx,0,none⟩=some un∧W.cell? ⟨Bx,1,none⟩=some up)∧Ks wy wy.heap.size un up R2.1∧Below V10.heap.size V10 wy)
       case first =>
        obtain ⟨Vd,hVd⟩:∃ z,V10.drew=z:=⟨_,rfl⟩
        have hbVd:Below V10.heap.size V10 Vd:=by rw [<- hVd];exact (Below.refl _ V10).drew
        have hzd:=hbVd.size
        obtain ⟨Vz,hVz⟩:∃ z,Vd.alloc (.cells #[.slice none 0 0,.slice none 0 0] 31)=z:=⟨_,rfl⟩
        have hbVz:Below V10.heap.size V10 Vz:=by rw [<- hVz];exact hbVd.alloc hbVd.size _
        have hzz:Vz.heap.size=Vd.heap.size+1:=by rw [<- hVz];simp
        have bz:Vz.heap[Vd.heap.size]?=some (.cells #[.slice none 0 0,.slice none 0 0] 31 (0,0)):=by rw [<- hVz];exact heap_alloc_new _ _
        obtain ⟨l0,l1⟩:=HCa.out V10 (Below.refl _ _)
        obtain ⟨l2,l3⟩:=HCa.out Vd hbVd
        obtain ⟨l4,l5⟩:=HCa.out Vz hbVz
        go_region_with (first
            | (go_at_call 25;(with_reducible refine (HR2.out _ _ Vd hbVd).mono ?_);rintro e w6 ⟨yn,yp,ys,yo,rfl,o6,t6,hb6⟩;obtain ⟨F,fc,rfl,hfc,-,-⟩:=t6.form;obtain ⟨A5,c5,A6,c6,rfl,rfl⟩:=o6.slices;have hx6:Below V10.heap.size V10 w6:=hbVd.trans (hb6.mono hbVd.size);obtain ⟨WX,hWX⟩:∃ WX,w6.alloc (.cells #[(.slice A5 R2.1.now.length c5),(.slice A6 R2.1.past.length c6)] 31)=WX:=⟨_,rfl⟩;have hb7:Below w6.heap.size w6 WX:=(by rw [<- hWX];exact (Below.refl _ w6).alloc (Nat.le_refl _) _);have hX:Below V10.heap.size V10 WX:=hx6.trans (hb7.mono hx6.size);have kX:Ks WX WX.heap.size (.slice A5 R2.1.now.length c5) (.slice A6 R2.1.past.length c6) R2.1:=o6.ks.up7 hb7;have tX:=(SO.below t6 hb7 (Nat.le_refl _)).isOf.2;have b7:WX.heap[w6.heap.size]?=some (.cells #[(.slice A5 R2.1.now.length c5),(.slice A6 R2.1.past.length c6)] 31 (0,0)):=(by rw [<- hWX];exact heap_alloc_new _ _);have bX:∃ Bx,Bx=w6.heap.size∧∀ W,Below WX.heap.size WX W->W.cell? ⟨Bx,0,none⟩=some (.slice A5 R2.1.now.length c5)∧W.cell? ⟨Bx,1,none⟩=some (.slice A6 R2.1.past.length c6):=⟨_,rfl,fun W hb=>⟨(two_at ((hb.block w6.heap.size (by have:=(Array.getElem?_eq_some_iff.1 b7).1;omega)).trans b7)).1,(two_at ((hb.block w6.heap.size (by have:=(Array.getElem?_eq_some_iff.1 b7).1;omega)).trans b7)).2.1⟩⟩;have hL7:=HCa.out w6 hx6)
            | (go_at_call 25;(with_reducible refine (HR2.out _ _ Vz hbVz).mono ?_);rintro e w6 ⟨yn,yp,ys,yo,rfl,o6,t6,hb6⟩;obtain ⟨F,fc,rfl,hfc,-,-⟩:=t6.form;obtain ⟨A5,c5,A6,c6,rfl,rfl⟩:=o6.slices;have hx6:Below V10.heap.size V10 w6:=hbVz.trans (hb6.mono hbVz.size);have bx:=(hb6.block Vd.heap.size (by omega)).trans bz;have x0':=cell_of_row _ Vd.heap.size 0 _ _ _ bx;have x1':=cell_of_row _ Vd.heap.size 1 _ _ _ bx;have z0:w6.frozen? ⟨Vd.heap.size,0,none⟩=false:=unfrozen_of bx;have z1:w6.frozen? ⟨Vd.heap.size,1,none⟩=false:=unfrozen_of bx;obtain ⟨Wa,hWa⟩:∃ Wa,w6.setCell ⟨Vd.heap.size,0,none⟩ (.slice A5 R2.1.now.length c5)=Wa:=⟨_,rfl⟩;obtain ⟨WX,hWX⟩:∃ WX,Wa.setCell ⟨Vd.heap.size,1,none⟩ (.slice A6 R2.1.past.length c6)=WX:=⟨_,rfl⟩;have bxa:Wa.heap[Vd.heap.size]?=some (.cells #[(.slice A5 R2.1.now.length c5),.slice none 0 0] 31 (0,0)):=(by rw [<- hWa];exact set2a _ bx);have x2':=cell_of_row _ Vd.heap.size 1 _ _ _ bxa;have z2:Wa.frozen? ⟨Vd.heap.size,1,none⟩=false:=unfrozen_of bxa;have b7:WX.heap[Vd.heap.size]?=some (.cells #[(.slice A5 R2.1.now.length c5),(.slice A6 R2.1.past.length c6)] 31 (0,0)):=(by rw [<- hWX];exact set2b _ bxa);have hgZ:w6.grownBy WX (some Vd.heap.size):=(by rw [<- hWX,<- hWa];exact W2_grown _ _ _ _);have hX:Below V10.heap.size V10 WX:=hx6.grown hgZ (by have:=hx6.size;omega) (fun k e=>by cases e;exact hbVd.size);have kX:Ks WX WX.heap.size (.slice A5 R2.1.now.length c5) (.slice A6 R2.1.past.length c6) R2.1:=(o6.keptLow hgZ (by omega)).ks;have tX:=(SO.grown7 t6 hgZ (fun k e=>by cases e;omega)).isOf.2;have bX:∃ Bx,Bx=Vd.heap.size∧∀ W,Below WX.heap.size WX W->W.cell? ⟨Bx,0,none⟩=some (.slice A5 R2.1.now.length c5)∧W.cell? ⟨Bx,1,none⟩=some (.slice A6 R2.1.past.length c6):=⟨_,rfl,fun W hb=>⟨(two_at ((hb.block Vd.heap.size (by have:=(Array.getElem?_eq_some_iff.1 b7).1;omega)).trans b7)).1,(two_at ((hb.block Vd.heap.size (by have:=(Array.getElem?_eq_some_iff.1 b7).1;omega)).trans b7)).2.1⟩⟩;have hL7:=HCa.out w6 hx6))
        all_goals
         obtain ⟨Bx,hBx,HBx⟩:=bX
         subst hBx
         try go_wp2_with fail
         go_meet
         case rel=>exact ⟨_,_,_,rfl,_,_,rfl,hfc,tX,HBx,kX,hX⟩
       case rest =>
       obtain ⟨Bc,cn,cp,rfl,F2,fc2,rfl,hfc2,hF2,HCc,kc,hbc⟩:=hcut
       obtain ⟨C1,c1,C2,c2,rfl,rfl⟩:=kc.slices
       have hba2:=HBA.out.trans (hbc.mono HBA.out.size)
       have kxc:=kx9.up7 hba2
       have HF1:=Lib.hid (fun W (hb:Below wc.heap.size wc W)=>((hF1.below hbc).more hbc.size).below hb |>.more hb.size)
       have HF2:=Lib.hid (fun W (hb:Below wc.heap.size wc W)=>(hF2.below hb).more hb.size)
       have HE:=Lib.hid (fun W (hb:Below wc.heap.size wc W)=>(((e9.below hba2).more hba2.size).below hb).more hb.size)
       have HCc:=Lib.hid HCc
       have HP:=Lib.hid hparts.out
       have HLn:=Lib.hid (line_least HXok.out)
       have HSX:=Lib.hid (fun W (hb:Below wc.heap.size wc W)=>show Calls Tryz.prog 18 #[.agg #[.slice C1 R2.1.now.length c1,.slice C2 R2.1.past.length c2],.agg #[.slice Y1 (deskSay D []).1.now.length y1,.slice Y2 (deskSay D []).1.past.length y2]] W fun e w'=>e=.returned (.bool true)∧Below W.heap.size W w' from by
        have K:=c_sameDesk R2.1 (deskSay D []).1 _ _ _ _ W (kc.up7 hb) (kxc.up7 hb) sm2 smX
        rw [show eqK R2.1 (deskSay D []).1=true by rw [HP.out.1];exact eqK_self _] at K
        exact K)
       have HQ1:=Lib.hid (fun W (hb:Below wc.heap.size wc W)=>lineT (deskSay D []).1 _ _ wLeast W (kxc.up7 hb) smX (by decide) (HV9.out.at (hba2.trans (hb.mono hba2.size))))
       rw [HLn.out.1] at HQ1
       have HQ2:=Lib.hid (fun W (hb:Below wc.heap.size wc W)=>lineT (deskSay D []).1 _ _ wSum2 W (kxc.up7 hb) smX (by decide) (HV9.out.at (hba2.trans (hb.mono hba2.size))))
       rw [HLn.out.2] at HQ2
       have HTn:=Lib.hid (numL_nn (leastV (deskSay D []).1.now).toNat)
       generalize numL (leastV (deskSay D []).1.now).toNat=T at HQ1 HQ2 HTn
       have H5c:=Lib.hid (fun W (hb:Below wc.heap.size wc W)=>H5.out W (hba2.trans (hb.mono hba2.size)))
       have HX:=Lib.hid (HX9.out.trans (hba2.mono HX9.out.size))
       clear hparts kc hbc kxc hba2 hF1 hF2 e9 HLn
       go_wp2_with fail
       go_loopw [14] (fun kv wr=>∃ k:Nat,kv=.int .i64 (k:Int)∧k<=(deskSay D []).2.length∧wc=wr) (fun kv _=>(deskSay D []).2.length - (intOf kv).toNat)
       case atStart=>exact ⟨0,rfl,Nat.zero_le _,rfl⟩
       case round =>
        obtain ⟨k,rfl,hk,hwc⟩:=hrel
        subst hwc
        by_cases hkl:k < (deskSay D []).2.length
        ·obtain ⟨eb,eo,rfl,-,hec⟩:=HE.out wc (Below.refl _ _) (by omega)
         have q:=hec k hkl
         have hne:=HNE.out k hkl
         have h0:(bs (ZS (deskSay D []).2 k)).toList.isEmpty=false:=by rw [bs_list];cases hh:ZS (deskSay D []).2 k with | nil=>exact (hne hh).elim | cons x y=>rfl
         have h00:¬ (bs (ZS (deskSay D []).2 k)).toList=[]:=by rw [bs_list];exact hne
         have hsm9:=HYS.out
         clear hne hec
         go_wp2_with fail
         go_roundw
         case rel=>exact ⟨k+1,by go_num,by omega,by first | rfl | trivial⟩
         case measure=>simp [intOf];omega
        ·have hkl':¬ (k:Int) < ((deskSay D []).2.length:Int):=by omega
         obtain ⟨q0,q1⟩:=H5c.out _ (Below.refl _ wc)
         go_wp2_with fail
         refine (HQ1.out _ (Below.refl _ _)).mono ?_
         rintro e u1 ⟨A1',a1',A2',a2',n1',n2',rfl,hu1⟩
         obtain ⟨u2,hu2,hz2',hbu2,-⟩:=laidK u1 (.slice A1' n1' a1') (.slice A2' n2' a2')
         have hxu2:=hu1.trans (hbu2.mono hu1.size)
         clear q0 q1 hu1 hbu2 hk hkl hkl'
         obtain ⟨q0,q1⟩:=H5c.out _ hxu2
         go_wp2_with fail
         clear hu2 hz2'
         refine (HQ2.out _ hxu2).mono ?_
         rintro e u3 ⟨A3',a3',A4',a4',n3',n4',rfl,hu3⟩
         obtain ⟨u4,hu4,hz4',hbu4,-⟩:=laidK u3 (.slice A3' n3' a3') (.slice A4' n4' a4')
         have hxu4:=hxu2.trans ((hu3.trans (hbu4.mono hu3.size)).mono hxu2.size)
         clear q0 q1 hu3 hbu4 hxu2
         obtain ⟨q0,q1⟩:=H5c.out _ hxu4
         obtain ⟨q2,q3⟩:=HCc.out _ hxu4
         go_wp2_with fail
         clear hu4 hz4'
         refine (HSX.out _ hxu4).mono ?_
         rintro e u5 ⟨rfl,hb5'⟩
         have hxu5:=hxu4.trans (hb5'.mono hxu4.size)
         clear q0 q1 q2 q3 hb5' hxu4
         obtain ⟨u6,hu6⟩:∃ z,u5.alloc (.cells #[] 9)=z:=⟨_,rfl⟩
         have hb6':Below u5.heap.size u5 u6:=by rw [<- hu6];exact (Below.refl _ u5).alloc (Nat.le_refl _) _
         have o6':SO u6 u5.heap.size (.slice (some ⟨u5.heap.size,0,none⟩) 0 0) []:=by rw [<- hu6];exact SO.empty _ (Nat.le_refl _)
         have hxu6:=hxu5.trans (hb6'.mono hxu5.size)
         have HO6:=Lib.hid o6'
         have f6:=(HF1.out _ hxu5).below hb6'
         have g6:=(HF2.out _ hxu5).below hb6'
         have hlen12:R1.2.length+R2.2.length<=41:=by have:=congrArg List.length HP.out.2;rw [List.length_append] at this;have:=HYS.out;omega
         have hsz6:=hb6'.size
         have HU:=Lib.hid (And.intro f6 (And.intro g6 (And.intro hlen12 hsz6)))
         have hlT:(((deskSay D []).2.length:Int) == 0)=true:=by rw [HYL.out];rfl
         have hTT:((bs T).toList == (bs T).toList)=true:=beq_self_eq_true _
         have hT0:(bs T).toList.isEmpty=false:=by rw [bs_list];have:=HTn.out;cases T with | nil=>exact (this rfl).elim | cons x y=>rfl
         have hT00:¬ (bs T).toList=[]:=by rw [bs_list];exact HTn.out
         have HB6:=Lib.hid hb6'
         clear f6 g6 hlen12 hsz6 o6' hb6'
         go_wp2_with (first | (refine app_SN ?_ (.tmp 113) (.tmp 114) ?_ u5.heap.size (.slice g7 R1.2.length cap) R1.2 R2.2 F2 fc2 u5.heap.size ?_ ?_ ?_ ?_ ?_ ?_ ?_;rfl;rfl;rfl;exact hown7;rfl;exact HU.out.2.1.below hb7;(have:=HU.out.2.2.1;omega);(have:=HU.out.2.2.2;have:=hb7.size;omega);intro g8 cap8 u8 hown8 hgr8 hb8) | (refine app_SN ?_ (.tmp 111) (.tmp 112) ?_ u5.heap.size (.slice (some ⟨u5.heap.size,0,none⟩) 0 0) [] R1.2 F1 fc1 u5.heap.size ?_ ?_ ?_ ?_ ?_ ?_ ?_;rfl;rfl;rfl;exact HO6.out;rfl;exact HU.out.1;(simp only [List.length_nil];have:=HU.out.2.2.1;omega);exact HU.out.2.2.2;intro g7 cap u7 hown7 hgr7 hb7;simp only [List.length_nil,Nat.zero_add,List.nil_append] at hown7))
         have hxu8:=hxu6.trans ((hb7.trans (hb8.mono (Nat.le_refl _))).mono hxu5.size)
         have K:=c_sameTexts (R1.2++R2.2) (deskSay D []).2 g8 E _ _ cap8 ec u8 (SO.isOf (by rw [<- List.length_append] at hown8;exact hown8)).2 (HE.out _ hxu8) (by rw [List.length_append];have:=HU.out.2.2.1;omega) (by have:=HYS.out;omega)
         rw [decide_eq_true HP.out.2,List.length_append] at K
         refine K.mono ?_
         rintro e u9 ⟨rfl,hb9'⟩
         have hxu9:=hxu8.trans (hb9'.mono hxu8.size)
         clear K
         go_wp2_with fail
         refine (c_alive _).mono ?_
         rintro e u10 ⟨rfl,hb10'⟩
         go_wp2_with fail
         go_ret
         exact ⟨rfl,HX.out.trans ((hxu9.trans (hb10'.mono hxu9.size)).mono HX.out.size)⟩
    ·have HMZ':=HMZ.out (by omega)
     obtain ⟨gb,go,rfl,hgl,hgcc⟩:=g10 (by omega)
     have hgm:=HGC.out
     have p4:(m:Int) < (gc:Int):=by omega
     have p5:((ls.length:Int) - (m:Int)).toNat=ls.length - m:=by omega
     have p6:(m:Int)<=(ls.length:Int):=by omega
     have p7:(ls.length:Int)<=(gc:Int):=by omega
     have p8:(0:Int)<=(m:Int):=by omega
     have HR2:=Lib.hid (fun W (hb:Below V10.heap.size V10 W)=>show Calls Tryz.prog 25 #[.agg #[.slice A1 R1.1.now.length a1,.slice A2 R1.1.past.length a2],.slice (some ⟨gb,go+m,none⟩) (ls.length - m) (gc - m)] W fun e w'=>∃ un up us ov,e=.returned (.tuple #[.agg #[un,up],ov])∧KO w' W.heap.size un up (deskSay R1.1 (ls.drop m)).1 us∧SO w' W.heap.size ov (deskSay R1.1 (ls.drop m)).2∧Below W.heap.size W w' from by
      have K:=c_iDeskSay R1.1 (ls.drop m) _ _ (some ⟨gb,go+m,none⟩) (gc - m) W (ka.up7 hb) sm1 (((show Ss V10 V10.heap.size (some ⟨gb,go,none⟩) ls from fun _=>⟨gb,go,rfl,hgl,hgcc⟩).drop m).below hb |>.more hb.size) (by have:=HL2.out;have:=HGC.out;omega) (by have:=HL2.out;have:=HGC.out;omega) (fun k hk=>by rw [HL2.out] at hk;rw [show ZS (ls.drop m) k=ZS ls (m+k) by simp [ZS,List.getD_eq_getElem?_getD]];exact hT (m+k) (by omega)) (HVa.out.at hb)
      rw [HL2.out] at K
      exact K.mono (by rintro e w' ⟨a1,a2,a3,a4,h1,h2,h3,-,h4⟩;exact ⟨a1,a2,a3,a4,h1,h2,h3,h4⟩))
     have sm2:=say_small (ls:=ls.drop m) sm1
     generalize hR2:deskSay R1.1 (ls.drop m)=R2 at HR2 sm2 hparts
     have HRS:=Lib.hid hR2
     clear hR2
     go_upto_region 12 with fail
     go_cut [12,13] from 78 to 85 (fun p12 p13 wy=>∃ (Bx:Nat) (un up:Value),p12=.pointer (some ⟨Bx,0,none⟩)∧∃ (F:Option Addr) (fc:Nat),p13=.slice F R2.2.length fc∧R2.2.length<=fc∧Ss wy wy.heap.size F R2.2∧(∀ W,Below wy.heap.size wy W->W.cell? ⟨Bx,0,none⟩=some un∧W.cell? ⟨Bx,1,none⟩=some up)∧Ks wy wy.heap.size un up R2.1∧Below V10.heap.size V10 wy)
     case first =>
      obtain ⟨Vd,hVd⟩:∃ z,V10.drew=z:=⟨_,rfl⟩
      have hbVd:Below V10.heap.size V10 Vd:=by rw [<- hVd];exact (Below.refl _ V10).drew
      have hzd:=hbVd.size
      obtain ⟨Vz,hVz⟩:∃ z,Vd.alloc (.cells #[.slice none 0 0,.slice none 0 0] 31)=z:=⟨_,rfl⟩
      have hbVz:Below V10.heap.size V10 Vz:=by rw [<- hVz];exact hbVd.alloc hbVd.size _
      have hzz:Vz.heap.size=Vd.heap.size+1:=by rw [<- hVz];simp
      have bz:Vz.heap[Vd.heap.size]?=some (.cells #[.slice none 0 0,.slice none 0 0] 31 (0,0)):=by rw [<- hVz];exact heap_alloc_new _ _
      obtain ⟨l0,l1⟩:=HCa.out V10 (Below.refl _ _)
      obtain ⟨l2,l3⟩:=HCa.out Vd hbVd
      obtain ⟨l4,l5⟩:=HCa.out Vz hbVz
      go_region_with (first
          | (go_at_call 25;(with_reducible refine (HR2.out Vd hbVd).mono ?_);rintro e w6 ⟨yn,yp,ys,yo,rfl,o6,t6,hb6⟩;obtain ⟨F,fc,rfl,hfc,-,-⟩:=t6.form;obtain ⟨A5,c5,A6,c6,rfl,rfl⟩:=o6.slices;have hx6:Below V10.heap.size V10 w6:=hbVd.trans (hb6.mono hbVd.size);obtain ⟨WX,hWX⟩:∃ WX,w6.alloc (.cells #[(.slice A5 R2.1.now.length c5),(.slice A6 R2.1.past.length c6)] 31)=WX:=⟨_,rfl⟩;have hb7:Below w6.heap.size w6 WX:=(by rw [<- hWX];exact (Below.refl _ w6).alloc (Nat.le_refl _) _);have hX:Below V10.heap.size V10 WX:=hx6.trans (hb7.mono hx6.size);have kX:Ks WX WX.heap.size (.slice A5 R2.1.now.length c5) (.slice A6 R2.1.past.length c6) R2.1:=o6.ks.up7 hb7;have tX:=(SO.below t6 hb7 (Nat.le_refl _)).isOf.2;have b7:WX.heap[w6.heap.size]?=some (.cells #[(.slice A5 R2.1.now.length c5),(.slice A6 R2.1.past.length c6)] 31 (0,0)):=(by rw [<- hWX];exact heap_alloc_new _ _);have bX:∃ Bx,Bx=w6.heap.size∧∀ W,Below WX.heap.size WX W->W.cell? ⟨Bx,0,none⟩=some (.slice A5 R2.1.now.length c5)∧W.cell? ⟨Bx,1,none⟩=some (.slice A6 R2.1.past.length c6):=⟨_,rfl,fun W hb=>⟨(two_at ((hb.block w6.heap.size (by have:=(Array.getElem?_eq_some_iff.1 b7).1;omega)).trans b7)).1,(two_at ((hb.block w6.heap.size (by have:=(Array.getElem?_eq_some_iff.1 b7).1;omega)).trans b7)).2.1⟩⟩;have hL7:=HCa.out w6 hx6)
          | (go_at_call 25;(with_reducible refine (HR2.out Vz hbVz).mono ?_);rintro e w6 ⟨yn,yp,ys,yo,rfl,o6,t6,hb6⟩;obtain ⟨F,fc,rfl,hfc,-,-⟩:=t6.form;obtain ⟨A5,c5,A6,c6,rfl,rfl⟩:=o6.slices;have hx6:Below V10.heap.size V10 w6:=hbVz.trans (hb6.mono hbVz.size);have bx:=(hb6.block Vd.heap.size (by omega)).trans bz;have x0':=cell_of_row _ Vd.heap.size 0 _ _ _ bx;have x1':=cell_of_row _ Vd.heap.size 1 _ _ _ bx;have z0:w6.frozen? ⟨Vd.heap.size,0,none⟩=false:=unfrozen_of bx;have z1:w6.frozen? ⟨Vd.heap.size,1,none⟩=false:=unfrozen_of bx;obtain ⟨Wa,hWa⟩:∃ Wa,w6.setCell ⟨Vd.heap.size,0,none⟩ (.slice A5 R2.1.now.length c5)=Wa:=⟨_,rfl⟩;obtain ⟨WX,hWX⟩:∃ WX,Wa.setCell ⟨Vd.heap.size,1,none⟩ (.slice A6 R2.1.past.length c6)=WX:=⟨_,rfl⟩;have bxa:Wa.heap[Vd.heap.size]?=some (.cells #[(.slice A5 R2.1.now.length c5),.slice none 0 0] 31 (0,0)):=(by rw [<- hWa];exact set2a _ bx);have x2':=cell_of_row _ Vd.heap.size 1 _ _ _ bxa;have z2:Wa.frozen? ⟨Vd.heap.size,1,none⟩=false:=unfrozen_of bxa;have b7:WX.heap[Vd.heap.size]?=some (.cells #[(.slice A5 R2.1.now.length c5),(.slice A6 R2.1.past.length c6)] 31 (0,0)):=(by rw [<- hWX];exact set2b _ bxa);have hgZ:w6.grownBy WX (some Vd.heap.size):=(by rw [<- hWX,<- hWa];exact W2_grown _ _ _ _);have hX:Below V10.heap.size V10 WX:=hx6.grown hgZ (by have:=hx6.size;omega) (fun k e=>by cases e;exact hbVd.size);have kX:Ks WX WX.heap.size (.slice A5 R2.1.now.length c5) (.slice A6 R2.1.past.length c6) R2.1:=(o6.keptLow hgZ (by omega)).ks;have tX:=(SO.grown7 t6 hgZ (fun k e=>by cases e;omega)).isOf.2;have bX:∃ Bx,Bx=Vd.heap.size∧∀ W,Below WX.heap.size WX W->W.cell? ⟨Bx,0,none⟩=some (.slice A5 R2.1.now.length c5)∧W.cell? ⟨Bx,1,none⟩=some (.slice A6 R2.1.past.length c6):=⟨_,rfl,fun W hb=>⟨(two_at ((hb.block Vd.heap.size (by have:=(Array.getElem?_eq_some_iff.1 b7).1;omega)).trans b7)).1,(two_at ((hb.block Vd.heap.size (by have:=(Array.getElem?_eq_some_iff.1 b7).1;omega)).trans b7)).2.1⟩⟩;have hL7:=HCa.out w6 hx6))
      all_goals
       obtain ⟨Bx,hBx,HBx⟩:=bX
       subst hBx
       try go_wp2_with fail
       go_meet
       case rel=>exact ⟨_,_,_,rfl,_,_,rfl,hfc,tX,HBx,kX,hX⟩
     case rest =>
      obtain ⟨Bc,cn,cp,rfl,F2,fc2,rfl,hfc2,hF2,HCc,kc,hbc⟩:=hcut
      obtain ⟨C1,c1,C2,c2,rfl,rfl⟩:=kc.slices
      have hba2:=HBA.out.trans (hbc.mono HBA.out.size)
      have kxc:=kx9.up7 hba2
      have HF1:=Lib.hid (fun W (hb:Below wc.heap.size wc W)=>((hF1.below hbc).more hbc.size).below hb |>.more hb.size)
      have HF2:=Lib.hid (fun W (hb:Below wc.heap.size wc W)=>(hF2.below hb).more hb.size)
      have HE:=Lib.hid (fun W (hb:Below wc.heap.size wc W)=>(((e9.below hba2).more hba2.size).below hb).more hb.size)
      have HCc:=Lib.hid HCc
      have HP:=Lib.hid hparts.out
      have HLn:=Lib.hid (line_least HXok.out)
      have HSX:=Lib.hid (fun W (hb:Below wc.heap.size wc W)=>show Calls Tryz.prog 18 #[.agg #[.slice C1 R2.1.now.length c1,.slice C2 R2.1.past.length c2],.agg #[.slice Y1 (deskSay D ls).1.now.length y1,.slice Y2 (deskSay D ls).1.past.length y2]] W fun e w'=>e=.returned (.bool true)∧Below W.heap.size W w' from by
       have K:=c_sameDesk R2.1 (deskSay D ls).1 _ _ _ _ W (kc.up7 hb) (kxc.up7 hb) sm2 smX
       rw [show eqK R2.1 (deskSay D ls).1=true by rw [HP.out.1];exact eqK_self _] at K
       exact K)
      have HQ1:=Lib.hid (fun W (hb:Below wc.heap.size wc W)=>lineT (deskSay D ls).1 _ _ wLeast W (kxc.up7 hb) smX (by decide) (HV9.out.at (hba2.trans (hb.mono hba2.size))))
      rw [HLn.out.1] at HQ1
      have HQ2:=Lib.hid (fun W (hb:Below wc.heap.size wc W)=>lineT (deskSay D ls).1 _ _ wSum2 W (kxc.up7 hb) smX (by decide) (HV9.out.at (hba2.trans (hb.mono hba2.size))))
      rw [HLn.out.2] at HQ2
      have HTn:=Lib.hid (numL_nn (leastV (deskSay D ls).1.now).toNat)
      generalize numL (leastV (deskSay D ls).1.now).toNat=T at HQ1 HQ2 HTn
      have H5c:=Lib.hid (fun W (hb:Below wc.heap.size wc W)=>H5.out W (hba2.trans (hb.mono hba2.size)))
      have HX:=Lib.hid (HX9.out.trans (hba2.mono HX9.out.size))
      clear hparts kc hbc kxc hba2 hF1 hF2 e9 HLn
      go_wp2_with fail
      go_loopw [14] (fun kv wr=>∃ k:Nat,kv=.int .i64 (k:Int)∧k<=(deskSay D ls).2.length∧wc=wr) (fun kv _=>(deskSay D ls).2.length - (intOf kv).toNat)
      case atStart=>exact ⟨0,rfl,Nat.zero_le _,rfl⟩
      case round =>
       obtain ⟨k,rfl,hk,hwc⟩:=hrel
       subst hwc
       by_cases hkl:k < (deskSay D ls).2.length
       ·obtain ⟨eb,eo,rfl,-,hec⟩:=HE.out wc (Below.refl _ _) (by omega)
        have q:=hec k hkl
        have hne:=HNE.out k hkl
        have h0:(bs (ZS (deskSay D ls).2 k)).toList.isEmpty=false:=by rw [bs_list];cases hh:ZS (deskSay D ls).2 k with | nil=>exact (hne hh).elim | cons x y=>rfl
        have h00:¬ (bs (ZS (deskSay D ls).2 k)).toList=[]:=by rw [bs_list];exact hne
        have hsm9:=HYS.out
        clear hne hec
        go_wp2_with fail
        go_roundw
        case rel=>exact ⟨k+1,by go_num,by omega,by first | rfl | trivial⟩
        case measure=>simp [intOf];omega
       ·have hkl':¬ (k:Int) < ((deskSay D ls).2.length:Int):=by omega
        obtain ⟨q0,q1⟩:=H5c.out _ (Below.refl _ wc)
        go_wp2_with fail
        refine (HQ1.out _ (Below.refl _ _)).mono ?_
        rintro e u1 ⟨A1',a1',A2',a2',n1',n2',rfl,hu1⟩
        obtain ⟨u2,hu2,hz2',hbu2,-⟩:=laidK u1 (.slice A1' n1' a1') (.slice A2' n2' a2')
        have hxu2:=hu1.trans (hbu2.mono hu1.size)
        clear q0 q1 hu1 hbu2 hk hkl hkl'
        obtain ⟨q0,q1⟩:=H5c.out _ hxu2
        go_wp2_with fail
        clear hu2 hz2'
        refine (HQ2.out _ hxu2).mono ?_
        rintro e u3 ⟨A3',a3',A4',a4',n3',n4',rfl,hu3⟩
        obtain ⟨u4,hu4,hz4',hbu4,-⟩:=laidK u3 (.slice A3' n3' a3') (.slice A4' n4' a4')
        have hxu4:=hxu2.trans ((hu3.trans (hbu4.mono hu3.size)).mono hxu2.size)
        clear q0 q1 hu3 hbu4 hxu2
        obtain ⟨q0,q1⟩:=H5c.out _ hxu4
        obtain ⟨q2,q3⟩:=HCc.out _ hxu4
        go_wp2_with fail
        clear hu4 hz4'
        refine (HSX.out _ hxu4).mono ?_
        rintro e u5 ⟨rfl,hb5'⟩
        have hxu5:=hxu4.trans (hb5'.mono hxu4.size)
        clear q0 q1 q2 q3 hb5' hxu4
        obtain ⟨u6,hu6⟩:∃ z,u5.alloc (.cells #[] 9)=z:=⟨_,rfl⟩
        have hb6':Below u5.heap.size u5 u6:=by rw [<- hu6];exact (Below.refl _ u5).alloc (Nat.le_refl _) _
        have o6':SO u6 u5.heap.size (.slice (some ⟨u5.heap.size,0,none⟩) 0 0) []:=by rw [<- hu6];exact SO.empty _ (Nat.le_refl _)
        have hxu6:=hxu5.trans (hb6'.mono hxu5.size)
        have HO6:=Lib.hid o6'
        have f6:=(HF1.out _ hxu5).below hb6'
        have g6:=(HF2.out _ hxu5).below hb6'
        have hlen12:R1.2.length+R2.2.length<=41:=by have:=congrArg List.length HP.out.2;rw [List.length_append] at this;have:=HYS.out;omega
        have hsz6:=hb6'.size
        have HU:=Lib.hid (And.intro f6 (And.intro g6 (And.intro hlen12 hsz6)))
        have hlT:((((deskSay D ls).2.length:Int)) == ((ls.length:Nat):Int))=true:=by rw [HYL.out];exact beq_self_eq_true _
        have hTT:((bs T).toList == (bs T).toList)=true:=beq_self_eq_true _
        have hT0:(bs T).toList.isEmpty=false:=by rw [bs_list];have:=HTn.out;cases T with | nil=>exact (this rfl).elim | cons x y=>rfl
        have hT00:¬ (bs T).toList=[]:=by rw [bs_list];exact HTn.out
        have HB6:=Lib.hid hb6'
        clear f6 g6 hlen12 hsz6 o6' hb6'
        go_wp2_with (first | (refine app_SN ?_ (.tmp 113) (.tmp 114) ?_ u5.heap.size (.slice g7 R1.2.length cap) R1.2 R2.2 F2 fc2 u5.heap.size ?_ ?_ ?_ ?_ ?_ ?_ ?_;rfl;rfl;rfl;exact hown7;rfl;exact HU.out.2.1.below hb7;(have:=HU.out.2.2.1;omega);(have:=HU.out.2.2.2;have:=hb7.size;omega);intro g8 cap8 u8 hown8 hgr8 hb8) | (refine app_SN ?_ (.tmp 111) (.tmp 112) ?_ u5.heap.size (.slice (some ⟨u5.heap.size,0,none⟩) 0 0) [] R1.2 F1 fc1 u5.heap.size ?_ ?_ ?_ ?_ ?_ ?_ ?_;rfl;rfl;rfl;exact HO6.out;rfl;exact HU.out.1;(simp only [List.length_nil];have:=HU.out.2.2.1;omega);exact HU.out.2.2.2;intro g7 cap u7 hown7 hgr7 hb7;simp only [List.length_nil,Nat.zero_add,List.nil_append] at hown7))
        have hxu8:=hxu6.trans ((hb7.trans (hb8.mono (Nat.le_refl _))).mono hxu5.size)
        have K:=c_sameTexts (R1.2++R2.2) (deskSay D ls).2 g8 E _ _ cap8 ec u8 (SO.isOf (by rw [<- List.length_append] at hown8;exact hown8)).2 (HE.out _ hxu8) (by rw [List.length_append];have:=HU.out.2.2.1;omega) (by have:=HYS.out;omega)
        rw [decide_eq_true HP.out.2,List.length_append] at K
        refine K.mono ?_
        rintro e u9 ⟨rfl,hb9'⟩
        have hxu9:=hxu8.trans (hb9'.mono hxu8.size)
        clear K
        go_wp2_with fail
        refine (c_alive _).mono ?_
        rintro e u10 ⟨rfl,hb10'⟩
        go_wp2_with fail
        go_ret
        exact ⟨rfl,HX.out.trans ((hxu9.trans (hb10'.mono hxu9.size)).mono HX.out.size)⟩
  ·have hrun:sayOk D ls=false:=by
    cases h:sayOk D ls with
    | false=>rfl
    | true=>simp only [sayOk,Bool.and_eq_true,decide_eq_true_eq] at h;exact (hok h).elim
   have hR:=deskSay_no hrun
   have HE:=Lib.hid (show eqK (deskSay D ls).1 noK=true by rw [hR];exact eqK_self _)
   have hz:(((deskSay D ls).2.length:Int) == 0)=true:=by rw [hR];rfl
   have HN:=Lib.hid (c_noDesk _ _ _ w9 kx9 smX)
   obtain ⟨q0,q1⟩:=HC5.out _ hb59
   have hx9s:=hx9.size
   clear hR hrun k9 g9 hb28 hb29 hb58 hb59
   cases ho:deskOk D with
   | false =>
    go_wp2_with fail
    refine HN.out.mono ?_
    rintro e w10 ⟨rfl,hb10⟩
    rw [HE.out]
    have hx10:=hx9.trans (hb10.mono hx9.size)
    go_wp2_with fail
    refine (c_alive _).mono ?_
    rintro e w11 ⟨rfl,hb11⟩
    go_wp2_with fail
    go_ret
    exact ⟨rfl,hx10.trans (hb11.mono hx10.size)⟩
   | true =>
    have h40:(40:Int) < (ls.length:Int):=by
     have:¬ ls.length<=40:=fun h=>hok ⟨ho,h⟩
     omega
    go_wp2_with fail
    refine HN.out.mono ?_
    rintro e w10 ⟨rfl,hb10⟩
    rw [HE.out]
    have hx10:=hx9.trans (hb10.mono hx9.size)
    go_wp2_with fail
    refine (c_alive _).mono ?_
    rintro e w11 ⟨rfl,hb11⟩
    go_wp2_with fail
    go_ret
    exact ⟨rfl,hx10.trans (hb11.mono hx10.size)⟩
 ·have hn':(1048576:Int) < (n:Int):=by omega
  go_enter Tryz.func5,Tryz.ntmps5
  go_wp2_with fail
  go_ret
  exact ⟨rfl,Below.refl _ _⟩
end
end Go.Proofs.YthpccmkagikhjaaGreatDoor

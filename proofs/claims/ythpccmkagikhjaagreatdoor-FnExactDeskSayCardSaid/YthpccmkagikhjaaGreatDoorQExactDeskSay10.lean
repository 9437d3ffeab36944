import Derived.Test.YthpccmkagikhjaaGreatDoorQExactDeskSay3
import Derived.Test.YthpccmkagikhjaaGreatDoorQExactDeskSay4
import Derived.Test.YthpccmkagikhjaaGreatDoorQExactDeskSay7
import Derived.Test.YthpccmkagikhjaaGreatDoorQExactDeskSay9
import Derived.Lib.IndexMore
import Derived.Lib.Join
import Derived.Lib.Atoi
namespace Go.Proofs.YthpccmkagikhjaaGreatDoor
set_option linter.unusedVariables false
open Go.RowKit
set_option maxRecDepth 8000
set_option maxHeartbeats 4000000
section
attribute [local go_sem ↓] Go.wp_at_zero Go.wp_at_succ
theorem c_cloneC (L:List (Int×Int)) (A:Option Addr) (c:Nat) (w:World) (hA:Cs w w.heap.size A L) (hn:L.length<=1000000000) :
  Calls Tryz.prog 104 #[.slice A L.length c] w fun e w'=>∃ v,e=.returned v∧CO w' w.heap.size v L∧Below w.heap.size w w':=by
 have hb0:Below w.heap.size w (w.alloc (.cells #[] 100)):=by (repeat (first | exact rfl | exact Below.refl _ _ | (with_reducible refine Below.drew ?_) | (with_reducible refine Below.drewN ?_ _) | (with_reducible refine Below.alloc ?_ ?_ _) | (with_reducible refine Below.setCell ?_ ?_ _) | (show _<=_;focus (first | omega | (simp;done) | (simp;omega)))))
 have HA:=Lib.hid (hA.below hb0)
 cases A with
 | none =>
  have h0:L=[]:=by
   cases L with
   | nil=>rfl
   | cons x l=>obtain ⟨b,off,h,-⟩:=hA (by simp);cases h
  subst h0
  have hnil:=Lib.run_eql_slice_nil (P:=Tryz.prog) w 28 100 none 0 c 0 0 Tryz.underlying28
  clear hA
  show Calls Tryz.prog 104 #[.slice none 0 c] w _
  go_enter Tryz.func104,Tryz.ntmps104
  go_wp2_with fail
  go_ret
  exact ⟨_,rfl,CO.nil _ _,Below.refl _ _⟩
 | some a =>
  have hnil:=Lib.run_eql_slice_nil (P:=Tryz.prog) w 28 100 (some a) L.length c 0 0 Tryz.underlying28
  clear hA
  go_enter Tryz.func104,Tryz.ntmps104
  go_wp2_with (refine app_KC ?_ (.tmp 5) (.tmp 6) ?_ w.heap.size (.slice (some ⟨w.heap.size,0,none⟩) 0 0) [] L (some a) c w.heap.size L.length L.length ?_ ?_ ?_ ?_ ?_ ?_ ?_ ?_ ?_;rfl;rfl;rfl;exact (CO.empty w (Nat.le_refl _));rfl;rfl;(simp);exact HA.out;omega;(simp);intro G7 cap w7 o7 hgr7 hb7)
  go_ret
  rw [List.nil_append] at o7
  exact ⟨_,rfl,o7,hb0.trans hb7⟩
theorem c_cloneCC (Ls:List (List (Int×Int))) (A:Option Addr) (c B:Nat) (w:World) (hB:B<=w.heap.size) (hA:Css w B A Ls) (hn:Ls.length<=100000000) :
  Calls Tryz.prog 148 #[.slice A Ls.length c] w fun e w'=>∃ v hs,e=.returned v∧HdO w' w.heap.size v hs∧RdH w B hs Ls∧Below w.heap.size w w':=by
 have hb0:Below w.heap.size w (w.alloc (.cells #[] 28)):=by (repeat (first | exact rfl | exact Below.refl _ _ | (with_reducible refine Below.drew ?_) | (with_reducible refine Below.drewN ?_ _) | (with_reducible refine Below.alloc ?_ ?_ _) | (with_reducible refine Below.setCell ?_ ?_ _) | (show _<=_;focus (first | omega | (simp;done) | (simp;omega)))))
 cases A with
 | none =>
  have h0:Ls=[]:=by
   cases Ls with
   | nil=>rfl
   | cons x l=>obtain ⟨b,off,h,-⟩:=hA (by simp);cases h
  subst h0
  have hnil:=Lib.run_eql_slice_nil (P:=Tryz.prog) w 29 28 none 0 c 0 0 Tryz.underlying29
  clear hA
  show Calls Tryz.prog 148 #[.slice none 0 c] w _
  go_enter Tryz.func148,Tryz.ntmps148
  go_wp2_with fail
  go_ret
  exact ⟨_,[],rfl,HdO.nil _ _,RdH.nil _ _,Below.refl _ _⟩
 | some a =>
  have hnil:=Lib.run_eql_slice_nil (P:=Tryz.prog) w 29 28 (some a) Ls.length c 0 0 Tryz.underlying29
  obtain ⟨hs,hr,hc⟩:=(hA.below (hb0.mono hB)).hdrs
  obtain ⟨hs2,hr2,-⟩:=hA.hdrs
  have hl:=hr.1
  have HO1:=Lib.hid hr.one
  have HC:=Lib.hid hc
  have HR:=Lib.hid (show RdH w B hs Ls from ⟨hr.1,fun k hk=>by
   obtain ⟨A1,c1,e1,l1,-⟩:=hr.2 k hk
   obtain ⟨b,off,e,hlt,hcc⟩:=hA (by omega)
   obtain ⟨Ak,ck,e2,l2,hk2⟩:=hcc k hk
   cases e
   obtain ⟨b',off',e',hnews⟩:=hc (by omega)
   cases e'
   have h1:=hnews k _ (List.getElem?_eq_getElem (show k < hs.length by omega))
   have e3:(⟨b,off,none⟩:Addr).add k=⟨b,off+k,none⟩:=by by_cases e:k=0 <;> simp [Addr.add,e]
   rw [e3,hb0.cell (p:=⟨b,off+k,none⟩) (show b < w.heap.size by omega),e2] at h1
   have h4:hs.getD k undef=.slice Ak (LL Ls k).length ck:=by
    rw [List.getD_eq_getElem?_getD,List.getElem?_eq_getElem (show k < hs.length by omega),Option.getD_some]
    exact (Option.some.inj h1).symm
   exact ⟨Ak,ck,h4,l2,hk2⟩⟩)
  clear hA hr hr2 hc
  go_enter Tryz.func148,Tryz.ntmps148
  go_wp2_with (refine app_HN ?_ (.tmp 5) (.tmp 6) ?_ w.heap.size (.slice (some ⟨w.heap.size,0,none⟩) 0 0) [] hs (some a) c Ls.length Ls.length ?_ ?_ ?_ ?_ ?_ ?_ ?_ ?_ ?_ ?_;rfl;rfl;rfl;exact (HdO.empty w (Nat.le_refl _));rfl;exact hl;(simp);exact HC.out;exact HO1.out;omega;(simp);intro G7 cap w7 o7 hgr7 hb7)
  go_ret
  rw [List.nil_append] at o7
  exact ⟨_,hs,rfl,o7,HR.out,hb0.trans hb7⟩
theorem c_copiesOf (Ls:List (List (Int×Int))) (A:Option Addr) (c:Nat) (w:World) (hA:Css w w.heap.size A Ls) (hn:Ls.length<=100000000) (hs:∀ k,k < Ls.length->(LL Ls k).length<=100000000) :
  Calls Tryz.prog 105 #[.slice A Ls.length c] w fun e w'=>∃ v vs,e=.returned v∧COO w' w.heap.size v Ls vs∧Below w.heap.size w w':=by
 have HS:=Lib.hid hs
 have HA:=Lib.hid hA
 clear hs hA
 go_enter Tryz.func105,Tryz.ntmps105
 go_wp2_with fail
 go_loopw [3,8] (fun o i wr=>∃ (k:Nat) (vs:List Value),k<=Ls.length∧i=.int .i64 k∧COO wr w.heap.size o (Ls.take k) vs∧Below w.heap.size w wr)
  (fun _ i _=>Ls.length - (intOf i).toNat)
 case atStart=>exact ⟨0,[],by omega,rfl,COO.nil _ _,Below.refl _ _⟩
 case round =>
  obtain ⟨k,vs,hk,rfl,hown,hb⟩:=hrel
  have hsz:=hb.size
  have hkt:(Ls.take k).length=k:=by rw [List.length_take];omega
  by_cases hlt:k < Ls.length
  ·obtain ⟨b,off,rfl,hlb,hc⟩:=HA.out (by omega)
   obtain ⟨Ak,ck,e1,hck,hAk⟩:=hc k hlt
   have c1:=(hb.cell (p:=⟨b,off+k,none⟩) hlb).trans e1
   have HK:=Lib.hid (c_cloneC (LL Ls k) Ak ck wr ((hAk.below hb).more hsz) (by have:=HS.out k hlt;omega))
   have HT:=Lib.hid (take_LL hlt)
   clear hc e1 hAk
   go_wp2_with fail
   refine HK.out.mono ?_
   rintro e w5 ⟨sl,rfl,o5,hb5⟩
   have hs5:=hb5.size
   obtain ⟨G5,g5,rfl,hg5,-⟩:=o5.formG
   have hw5:=hb.trans (hb5.mono hsz)
   have ob:=owns_base o5
   have HOwn:=Lib.hid hown
   clear hown
   go_wp2_with (refine app_CO (by rfl) (.tmp 12) (.tmp 15) (by rfl) w.heap.size u3 (Ls.take k) vs wr (.slice G5 (LL Ls k).length g5) (LL Ls k) w5.heap.size (by rfl) HOwn.out (hb5.alloc hs5 _) ((o5.mono hsz).alloc _) ob (by rfl) (by rfl) (heap_alloc_new _ _) (by rw [hkt];omega) (by simp;omega) ?_;intro g cap w6 o6 hgr6 hor6 hb6)
   rw [hkt] at o6
   go_roundw
   case rel=>exact ⟨k+1,_,by omega,by go_num,by rw [HT.out];exact o6,hw5.trans (((Below.refl _ w5).alloc (by omega) _).trans hb6)⟩
   case measure=>simp [intOf];omega
  ·obtain rfl:k=Ls.length:=by omega
   rw [List.take_length] at hown
   go_wp2_with fail
   go_ret
   exact ⟨_,vs,rfl,hown,hb⟩
theorem two_boxes (w:World) (x y:Value):∃ w0,(w.alloc (.cells #[x,y] 31)).alloc (.cells #[.slice none 0 0,.slice none 0 0] 31)=w0∧w0.heap.size=w.heap.size+2∧Below w.heap.size w w0 ∧
  w0.heap[w.heap.size+1]?=some (.cells #[.slice none 0 0,.slice none 0 0] 31 (0,0)) ∧
  (∀ W,Below (w.heap.size+1) w0 W->W.cell? ⟨w.heap.size,0,none⟩=some x∧W.cell? ⟨w.heap.size,1,none⟩=some y):=by
 have bD:((w.alloc (.cells #[x,y] 31)).alloc (.cells #[.slice none 0 0,.slice none 0 0] 31)).heap[w.heap.size]?=some (.cells #[x,y] 31 (0,0)):=(Below.heap_alloc _ _ _ (by simp)).trans (heap_alloc_new _ _)
 have bR:((w.alloc (.cells #[x,y] 31)).alloc (.cells #[.slice none 0 0,.slice none 0 0] 31)).heap[w.heap.size+1]?=some (.cells #[.slice none 0 0,.slice none 0 0] 31 (0,0)):=by
  have h:=heap_alloc_new (w.alloc (.cells #[x,y] 31)) (.cells #[.slice none 0 0,.slice none 0 0] 31)
  rwa [show (w.alloc (.cells #[x,y] 31)).heap.size=w.heap.size+1 by simp] at h
 refine ⟨_,rfl,by simp,((Below.refl _ w).alloc (Nat.le_refl _) _).alloc (by simp) _,bR,fun W hb=>?_⟩
 have b:=(hb.block w.heap.size (by omega)).trans bD
 exact ⟨cell_of_row _ w.heap.size 0 _ _ _ b,cell_of_row _ w.heap.size 1 _ _ _ b⟩
theorem one_box (w:World) (x y:Value):∃ w0,w.alloc (.cells #[x,y] 31)=w0∧w0.heap.size=w.heap.size+1∧Below w.heap.size w w0∧w0.heap[w.heap.size]?=some (.cells #[x,y] 31 (0,0)) ∧
  (∀ W,Below (w.heap.size+1) w0 W->W.cell? ⟨w.heap.size,0,none⟩=some x∧W.cell? ⟨w.heap.size,1,none⟩=some y):=by
 have bD:=heap_alloc_new w (.cells #[x,y] 31)
 refine ⟨_,rfl,by simp,(Below.refl _ w).alloc (Nat.le_refl _) _,bD,fun W hb=>?_⟩
 have b:=(hb.block w.heap.size (by omega)).trans bD
 exact ⟨cell_of_row _ w.heap.size 0 _ _ _ b,cell_of_row _ w.heap.size 1 _ _ _ b⟩
theorem c_copied (D:KV) (vn vp:Value) (w:World) (hK:Ks w w.heap.size vn vp D) (hs:SmallK D) :
  Calls Tryz.prog 50 #[.agg #[vn,vp]] w fun e w'=>∃ un up us,e=.returned (.agg #[un,up])∧KO w' w.heap.size un up D us∧Below w.heap.size w w':=by
 obtain ⟨⟨An,cn,rfl,hcn,hN⟩,Ap,cp,rfl,hcp,hP⟩:=hK
 obtain ⟨hs1,hs2,hs3⟩:=hs
 obtain ⟨w0,hw0,hz0,hb0,bR,hS⟩:=two_boxes w (.slice An D.now.length cn) (.slice Ap D.past.length cp)
 have HC:=Lib.hid (fun (W:World) (hb:Below w.heap.size w W)=>c_cloneC D.now An cn W ((hN.below hb).more hb.size) (by omega))
 have HP:=Lib.hid (fun (W:World) (hb:Below w.heap.size w W)=>c_copiesOf D.past Ap cp W ((hP.below hb).more hb.size) (by omega) (fun k hk=>by have:=hs3 k hk;omega))
 have HS:=Lib.hid hS
 have hd0:Below w0.heap.size w0 w0.drew:=(Below.refl _ w0).drew
 clear hN hP hs3 hS
 go_enter Tryz.func50,Tryz.ntmps50
 have c01:=HS.out _ (Below.refl _ w0)
 obtain ⟨c0,c1⟩:=c01
 go_wp2_with fail
 go_region_held3 (fun W=>W.cell? ⟨w.heap.size,0,none⟩=some (.slice An D.now.length cn)∧W.cell? ⟨w.heap.size,1,none⟩=some (.slice Ap D.past.length cp))
  (first
    | go_keep
    | exact HS.out _ hy7
    | exact HS.out _ (hx6.mono (by omega))
    | exact HS.out _ (hx5.mono (by omega)))
  (first
    | (go_at_call 104;refine (HC.out _ (hb0.trans (hd0.mono (by omega)))).mono ?_;rintro e w5 ⟨un,rfl,o5,hb5⟩;obtain ⟨Gn,gn,rfl,-,-⟩:=o5.formG;have hx5:Below w0.heap.size w0 w5:=hd0.trans hb5)
    | (go_at_call 105;refine (HP.out w5 (hb0.trans (hx5.mono (by omega)))).mono ?_;rintro e w6 ⟨up,us,rfl,o6,hb6⟩;obtain ⟨Gp,gp,rfl,-,-,-⟩:=o6.form;have hz5:=hx5.size;have hx6:Below w0.heap.size w0 w6:=hx5.trans (hb6.mono hz5);have b6:=(hx6.block (w.heap.size+1) (by omega)).trans bR;have r0:=cell_of_row _ (w.heap.size+1) 0 _ _ _ b6;have r1:=cell_of_row _ (w.heap.size+1) 1 _ _ _ b6;have f0:w6.frozen? ⟨w.heap.size+1,0,none⟩=false:=unfrozen_of b6;have f1:w6.frozen? ⟨w.heap.size+1,1,none⟩=false:=unfrozen_of b6;have hy7:Below (w.heap.size+1) w0 ((w6.setCell ⟨w.heap.size+1,0,none⟩ (.slice Gn D.now.length gn)).setCell ⟨w.heap.size+1,1,none⟩ (.slice Gp D.past.length gp)):=((hx6.mono (show w.heap.size+1<=w0.heap.size by omega)).setCell (p:=⟨w.heap.size+1,0,none⟩) (Nat.le_refl _) _).setCell (p:=⟨w.heap.size+1,1,none⟩) (Nat.le_refl _) _))
 have hz0d:w0.drew.heap.size=w0.heap.size:=rfl
 have hz6:=hb6.size
 have l5:=owns_lt o5
 have ko:=((KCO.mk (o5.below hb6 (Nat.le_refl _)) (o6.mono hz5) (fun r hr e=>by have:=l5 r hr;have:=o6.base r e;omega) (fun k hk r hr e=>by have:=l5 r e;have:=(o6.inner_lt hk hr).2;omega)).ko.keptLow (W2_grown w6 (w.heap.size+1) (.slice Gn D.now.length gn) (.slice Gp D.past.length gp)) (by omega)).mono (show w.heap.size<=w0.drew.heap.size by omega)
 go_wp2_with fail
 have k01:=put2 (.slice Gn D.now.length gn) (.slice Gp D.past.length gp) b6
 obtain ⟨k0,k1⟩:=k01
 refine bodyPost_ret (v:=.agg #[.slice Gn D.now.length gn,.slice Gp D.past.length gp]) (by simp [results,Tryz.f50,go_sem,k0,k1]) rfl ?_
 exact ⟨_,_,us,rfl,ko,hb0.trans (hy7.mono (by omega))⟩
theorem c_notOk (L:List (Int×Int)) (A:Option Addr) (c:Nat) (w:World) (hA:Cs w w.heap.size A L) (hn:L.length<=140737488351232) :
  Calls Tryz.prog 82 #[.slice A L.length c] w fun e w'=>e=.returned (.bool (!cOk L))∧Below w.heap.size w w':=by
 have HC:=Lib.hid (c_iCustomersOk L A c w hA hn)
 go_enter Tryz.func82,Tryz.ntmps82
 go_wp2_with fail
 refine HC.out.mono ?_
 rintro e w1 ⟨rfl,hb1⟩
 go_wp2_with fail
 go_ret
 exact ⟨rfl,hb1⟩
theorem c_indexRow (Ls:List (List (Int×Int))) (A:Option Addr) (c:Nat) (w:World) (hA:Css w w.heap.size A Ls) (hn:Ls.length<=100000000) (hs:∀ k,k < Ls.length->(LL Ls k).length<=100000000) :
  Calls Tryz.prog 125 #[.slice A Ls.length c,.func (.func 82) #[] #[]] w fun e w'=>(∃ i:Int,e=.returned (.int .i64 i)∧decide (0<=i)=!Ls.all cOk)∧Below w.heap.size w w':=by
 have HS:=Lib.hid hs
 have HA:=Lib.hid hA
 clear hs hA
 go_enter Tryz.func125,Tryz.ntmps125
 go_wp2_with fail
 go_loopw [8] (fun i wr=>∃ k:Nat,k<=Ls.length∧i=.int .i64 k∧Hid (∀ j,j < k->cOk (LL Ls j)=true)∧Below w.heap.size w wr) (fun i _=>Ls.length - (intOf i).toNat)
 case atStart=>exact ⟨0,by omega,rfl,Lib.hid (fun j hj=>by omega),Below.refl _ _⟩
 case round =>
  obtain ⟨k,hk,rfl,HN,hb⟩:=hrel
  have hsz:=hb.size
  by_cases hlt:k < Ls.length
  ·obtain ⟨b,off,rfl,hlb,hc⟩:=HA.out (by omega)
   obtain ⟨Ak,ck,e1,hck,hAk⟩:=hc k hlt
   have c1:=(hb.cell (p:=⟨b,off+k,none⟩) hlb).trans e1
   have HK:=Lib.hid (c_notOk (LL Ls k) Ak ck wr ((hAk.below hb).more hsz) (by have:=HS.out k hlt;omega))
   have p1:(0:Int)<=(k:Int):=by omega
   have p2:(k:Int) < (Ls.length:Int):=by omega
   clear hc e1 hAk
   cases hz:cOk (LL Ls k) with
   | false =>
    have HB:=Lib.hid (show decide ((0:Int)<=(k:Int))=!Ls.all cOk by rw [all_bad hlt hz];simp)
    have HZ:=Lib.hid hz
    clear hz
    go_wp2_with fail
    refine HK.out.mono ?_
    rintro e w1 ⟨rfl,hb1⟩
    rw [HZ.out]
    go_wp2_with fail
    go_ret
    exact ⟨⟨_,rfl,HB.out⟩,hb.trans (hb1.mono hsz)⟩
   | true =>
    have HB:=Lib.hid (show ∀ j,j < k+1->cOk (LL Ls j)=true from fun j hj=>by
     rcases Nat.lt_succ_iff_lt_or_eq.1 hj with h | rfl
     ·exact HN.out j h
     ·exact hz)
    have HZ:=Lib.hid hz
    clear hz
    go_wp2_with fail
    refine HK.out.mono ?_
    rintro e w1 ⟨rfl,hb1⟩
    rw [HZ.out]
    go_wp2_with fail
    go_roundw
    case rel=>exact ⟨k+1,by omega,by go_num,HB,hb.trans (hb1.mono hsz)⟩
    case measure=>simp [intOf];omega
  ·have hlf:¬ ((k:Int) < (Ls.length:Int)):=by omega
   obtain rfl:k=Ls.length:=by omega
   go_wp2_with fail
   go_ret
   exact ⟨⟨_,rfl,by rw [all_to HN.out];rfl⟩,hb⟩
theorem c_containsRow (Ls:List (List (Int×Int))) (A:Option Addr) (c:Nat) (w:World) (hA:Css w w.heap.size A Ls) (hn:Ls.length<=100000000) (hs:∀ k,k < Ls.length->(LL Ls k).length<=100000000) :
  Calls Tryz.prog 81 #[.slice A Ls.length c,.func (.func 82) #[] #[]] w fun e w'=>e=.returned (.bool (!Ls.all cOk))∧Below w.heap.size w w':=by
 have HI:=Lib.hid (c_indexRow Ls A c w hA hn hs)
 go_enter Tryz.func81,Tryz.ntmps81
 go_wp2_with fail
 refine HI.out.mono ?_
 rintro e w1 ⟨⟨i,rfl,hi⟩,hb1⟩
 go_wp2_with fail
 go_ret
 rw [<- hi]
 exact ⟨rfl,hb1⟩
theorem c_iDeskOk (D:KV) (vn vp:Value) (w:World) (hK:Ks w w.heap.size vn vp D) (hs:SmallK D) :
  Calls Tryz.prog 23 #[.agg #[vn,vp]] w fun e w'=>e=.returned (.bool (deskOk D))∧Below w.heap.size w w':=by
 obtain ⟨⟨An,cn,rfl,hcn,hN⟩,Ap,cp,rfl,hcp,hP⟩:=hK
 obtain ⟨hs1,hs2,hs3⟩:=hs
 obtain ⟨w0,hw0,hz0,hb0,-,hS⟩:=one_box w (.slice An D.now.length cn) (.slice Ap D.past.length cp)
 have hv:deskOk D=(D.past.all cOk && (cOk D.now && decide (D.past.length<=8))):=rfl
 have HC:=Lib.hid (c_iCustomersOk D.now An cn w0 ((hN.below hb0).more hb0.size) (by omega))
 have HP:=Lib.hid (fun (W:World) (hb:Below w.heap.size w W)=>c_containsRow D.past Ap cp W ((hP.below hb).more hb.size) (by omega) (fun k hk=>by have:=hs3 k hk;omega))
 have HS:=Lib.hid hS
 obtain ⟨c0,c1⟩:=hS _ (Below.refl _ w0)
 clear hN hP hs3 hS
 cases h1:cOk D.now with
 | false =>
  have HV:=Lib.hid (show deskOk D=false by rw [hv,h1];simp)
  have H1:=Lib.hid h1
  clear hv h1
  go_enter Tryz.func23,Tryz.ntmps23
  go_wp2_with fail
  refine HC.out.mono ?_
  rintro e w1 ⟨rfl,hb1⟩
  rw [H1.out]
  clear c0 c1
  go_wp2_with fail
  go_ret
  exact ⟨by rw [HV.out];rfl,hb0.trans (hb1.mono hb0.size)⟩
 | true =>
  have H1:=Lib.hid h1
  by_cases h8:D.past.length<=8
  ·have p8:¬ (8:Int) < (D.past.length:Int):=by omega
   have HV:=Lib.hid (show deskOk D=!(!D.past.all cOk) by rw [hv,h1];simp [h8])
   clear hv h1
   go_enter Tryz.func23,Tryz.ntmps23
   go_wp2_with fail
   refine HC.out.mono ?_
   rintro e w1 ⟨rfl,hb1⟩
   rw [H1.out]
   obtain ⟨d0,d1⟩:=HS.out _ (hb1.mono (by omega))
   clear c0 c1
   have hx1:=hb0.trans (hb1.mono hb0.size)
   go_wp2_with fail
   refine (HP.out _ hx1).mono ?_
   rintro e w2 ⟨rfl,hb2⟩
   go_wp2_with fail
   go_ret
   exact ⟨by rw [HV.out,Bool.not_not];rfl,hx1.trans (hb2.mono hx1.size)⟩
  ·have p8:(8:Int) < (D.past.length:Int):=by omega
   have HV:=Lib.hid (show deskOk D=false by rw [hv];simp [h8])
   clear hv h1
   go_enter Tryz.func23,Tryz.ntmps23
   go_wp2_with fail
   refine HC.out.mono ?_
   rintro e w1 ⟨rfl,hb1⟩
   rw [H1.out]
   obtain ⟨d0,d1⟩:=HS.out _ (hb1.mono (by omega))
   clear c0 c1
   go_wp2_with fail
   go_ret
   exact ⟨by rw [HV.out];rfl,hb0.trans (hb1.mono hb0.size)⟩
end
section
attribute [local go_sem ↓] Go.wp_at_zero Go.wp_at_succ
def formVal (k:Int):Value :=
 if k=0 then .agg #[.string ⟨#[99,111,109,101]⟩,.int .i64 2] else if k=1 then .agg #[.string ⟨#[103,111]⟩,.int .i64 0] else if k=2 then .agg #[.string ⟨#[110,101,101,100]⟩,.int .i64 1]
 else if k=3 then .agg #[.string ⟨#[108,97,116,101,114]⟩,.int .i64 1] else .agg #[.string ⟨#[98,97,99,107]⟩,.int .i64 0]
def formOk (k a b:Int):Bool:=decide (k=0) || (decide (k=1) && decide (a=0) && decide (b=0)) || (decide (k=2) && decide (b=0)) || (decide (k=3) && decide (b=0)) || (decide (k=4) && decide (a=0) && decide (b=0))
theorem c_deedForms (w:World) :
  Calls Tryz.prog 98 #[] w fun e w'=>e=.returned (.agg #[.string ⟨#[99,111,109,101]⟩,.int .i64 2,.string ⟨#[103,111]⟩,.int .i64 0,.string ⟨#[110,101,101,100]⟩,.int .i64 1,.string ⟨#[108,97,116,101,114]⟩,.int .i64 1,.string ⟨#[98,97,99,107]⟩,.int .i64 0])∧Below w.heap.size w w':=by
 go_enter Tryz.func98,Tryz.ntmps98
 go_wp2_with fail
 exact bodyPost_ret (v:=.agg #[.string ⟨#[99,111,109,101]⟩,.int .i64 2,.string ⟨#[103,111]⟩,.int .i64 0,.string ⟨#[110,101,101,100]⟩,.int .i64 1,.string ⟨#[108,97,116,101,114]⟩,.int .i64 1,.string ⟨#[98,97,99,107]⟩,.int .i64 0]) (by simp [results,Tryz.f98,go_sem]) rfl ⟨rfl,by (repeat (first | exact rfl | exact Below.refl _ _ | (with_reducible refine Below.drew ?_) | (with_reducible refine Below.drewN ?_ _) | (with_reducible refine Below.alloc ?_ ?_ _) | (with_reducible refine Below.setCell ?_ ?_ _) | (show _<=_;focus (first | omega | (simp;done) | (simp;omega)))))⟩
theorem c_numbers (k a b:Int) (w:World) :
  Calls Tryz.prog 54 #[.agg #[.int .i64 k,.int .i64 a,.int .i64 b]] w fun e w'=>∃ g,e=.returned (.slice (some ⟨g,0,none⟩) 2 2)∧w'.cell? ⟨g,0,none⟩=some (.int .i64 a)∧w'.cell? ⟨g,1,none⟩=some (.int .i64 b)∧g < w'.heap.size∧Below w.heap.size w w':=by
 go_enter Tryz.func54,Tryz.ntmps54
 go_wp2_with fail
 go_ret
 exact ⟨_,rfl,by simp [go_sem],by simp [go_sem],by simp,by (repeat (first | exact rfl | exact Below.refl _ _ | (with_reducible refine Below.drew ?_) | (with_reducible refine Below.drewN ?_ _) | (with_reducible refine Below.alloc ?_ ?_ _) | (with_reducible refine Below.setCell ?_ ?_ _) | (show _<=_;focus (first | omega | (simp;done) | (simp;omega)))))⟩
theorem c_isNot0 (x:Int) (w:World):Calls Tryz.prog 113 #[.int .i64 x] w fun e w'=>e=.returned (.bool (!decide (x=0)))∧w=w':=by
 go_enter Tryz.func113,Tryz.ntmps113
 by_cases h:x=0
 ·subst h
  go_wp2_with fail
  go_ret
  exact ⟨rfl,rfl⟩
 ·have h2:(x == 0)=false:=beq_eq_false_iff_ne.2 h
  have h3:(x != 0)=true:=by simp [bne,h2]
  go_wp2_with fail
  go_ret
  exact ⟨by simp [h],rfl⟩
theorem c_indexNot0 (xs:List Int) (A:Option Addr) (B c:Nat) (w:World) (hA:Is w B A xs) (hn:xs.length<=140737488351232) :
  Calls Tryz.prog 149 #[.slice A xs.length c,.func (.func 113) #[] #[]] w fun e w'=>(∃ i:Int,e=.returned (.int .i64 i)∧decide (0<=i)=!xs.all (fun x=>decide (x=0)))∧w=w':=by
 go_enter Tryz.func149,Tryz.ntmps149
 go_wp2_with fail
 go_loopw [8] (fun i wr=>∃ k:Nat,k<=xs.length∧i=.int .i64 k∧Hid (∀ j,j < k->Z xs j=0)∧wr=w) (fun i _=>xs.length - (intOf i).toNat)
 case atStart=>exact ⟨0,by omega,rfl,Lib.hid (fun j hj=>by omega),rfl⟩
 case round =>
  obtain ⟨k,hk,rfl,HN,rfl⟩:=hrel
  by_cases hlt:k < xs.length
  ·obtain ⟨gb,go,rfl,hgb,hgc⟩:=hA (by omega)
   have c0:=hgc k hlt
   have p1:(0:Int)<=(k:Int):=by omega
   have p2:(k:Int) < (xs.length:Int):=by omega
   clear hgc
   by_cases hz:Z xs k=0
   ·have hd:decide (Z xs k=0)=true:=decide_eq_true hz
    have HB:=Lib.hid (show ∀ j,j < k+1->Z xs j=0 from fun j hj=>by
     rcases Nat.lt_succ_iff_lt_or_eq.1 hj with h | rfl
     ·exact HN.out j h
     ·exact hz)
    clear hz
    go_wp2_with fail
    refine (c_isNot0 _ _).mono ?_
    rintro e w1 ⟨rfl,rfl⟩
    rw [hd]
    go_wp2_with fail
    go_roundw
    case rel=>exact ⟨k+1,by omega,by go_num,HB,trivial⟩
    case measure=>simp [intOf];omega
   ·have hd:decide (Z xs k=0)=false:=decide_eq_false hz
    have HB:=Lib.hid (show decide ((0:Int)<=(k:Int))=!xs.all (fun x=>decide (x=0)) by
     cases h:xs.all (fun x=>decide (x=0)) with
     | true =>
      have:=List.all_eq_true.1 h _ (List.getElem_mem hlt)
      have e:Z xs k=xs[k]:=by simp [Z,hlt]
      rw [e] at hz
      simp at this
      exact absurd this hz
     | false=>simp)
    clear hz
    go_wp2_with fail
    refine (c_isNot0 _ _).mono ?_
    rintro e w1 ⟨rfl,rfl⟩
    rw [hd]
    go_wp2_with fail
    go_ret
    exact ⟨⟨_,rfl,HB.out⟩,rfl⟩
  ·have hlf:¬ ((k:Int) < (xs.length:Int)):=by omega
   obtain rfl:k=xs.length:=by omega
   have HB:=Lib.hid (show decide ((0:Int)≤-1)=!xs.all (fun x=>decide (x=0)) by
    have:xs.all (fun x=>decide (x=0))=true:=List.all_eq_true.2 (fun x hx=>by
     obtain ⟨k,hk,rfl⟩:=List.getElem_of_mem hx
     have:=HN.out k hk
     simpa [Z,hk] using this)
    rw [this];rfl)
   go_wp2_with fail
   go_ret
   exact ⟨⟨_,rfl,HB.out⟩,rfl⟩
theorem c_anyNot0 (xs:List Int) (A:Option Addr) (B c:Nat) (w:World) (hA:Is w B A xs) (hn:xs.length<=140737488351232) :
  Calls Tryz.prog 112 #[.slice A xs.length c,.func (.func 113) #[] #[]] w fun e w'=>e=.returned (.bool (!xs.all (fun x=>decide (x=0))))∧w=w':=by
 go_enter Tryz.func112,Tryz.ntmps112
 go_wp2_with fail
 refine (c_indexNot0 xs A B c w hA hn).mono ?_
 rintro e w1 ⟨⟨i,rfl,hi⟩,rfl⟩
 go_wp2_with fail
 go_ret
 rw [<- hi]
 exact ⟨rfl,rfl⟩
theorem c_any0 (A:Option Addr) (c:Nat) (w:World):Calls Tryz.prog 112 #[.slice A 0 c,.func (.func 113) #[] #[]] w fun e w'=>e=.returned (.bool false)∧w=w' :=
 c_anyNot0 [] A 0 c w (fun h=>by simp at h) (by simp)
theorem c_any1 (x:Int) (g off c:Nat) (w:World) (h:w.cell? ⟨g,off,none⟩=some (.int .i64 x)) :
  Calls Tryz.prog 112 #[.slice (some ⟨g,off,none⟩) 1 c,.func (.func 113) #[] #[]] w fun e w'=>e=.returned (.bool (!decide (x=0)))∧w=w' :=
 (c_anyNot0 [x] (some ⟨g,off,none⟩) (g+1) c w (fun _=>⟨g,off,rfl,by omega,fun k hk=>by
   have hk0:k=0:=by simpa using hk
   subst hk0
   exact h⟩) (by simp)).mono fun e w' he=>⟨by rw [he.1];simp,he.2⟩
theorem c_any2 (x y:Int) (g off c:Nat) (w:World) (h:w.cell? ⟨g,off,none⟩=some (.int .i64 x)) (h2:w.cell? ⟨g,off+1,none⟩=some (.int .i64 y)) :
  Calls Tryz.prog 112 #[.slice (some ⟨g,off,none⟩) 2 c,.func (.func 113) #[] #[]] w fun e w'=>e=.returned (.bool (!(decide (x=0) && decide (y=0))))∧w=w' :=
 (c_anyNot0 [x,y] (some ⟨g,off,none⟩) (g+1) c w (fun _=>⟨g,off,rfl,by omega,fun k hk=>by
   have hk2:k=0∨k=1:=by simp at hk;omega
   rcases hk2 with rfl | rfl
   ·exact h
   ·exact h2⟩) (by simp)).mono fun e w' he=>⟨by rw [he.1];simp,he.2⟩
theorem formOk_no {k a b:Int} (h:¬ (0<=k∧k<=4)):formOk k a b=false:=by
 have:k≠0∧k≠1∧k≠2∧k≠3∧k≠4:=by omega
 simp [formOk,this]
theorem c_form0 (k:Nat) (W:ByteArray) (a b:Int) (hk:k<=4) (hA:(#[.string ⟨#[99,111,109,101]⟩,.int .i64 2,.string ⟨#[103,111]⟩,.int .i64 0,.string ⟨#[110,101,101,100]⟩,.int .i64 1,.string ⟨#[108,97,116,101,114]⟩,.int .i64 1,.string ⟨#[98,97,99,107]⟩,.int .i64 0]:Array Value)[k * 2]?=some (.string W)∧(#[.string ⟨#[99,111,109,101]⟩,.int .i64 2,.string ⟨#[103,111]⟩,.int .i64 0,.string ⟨#[110,101,101,100]⟩,.int .i64 1,.string ⟨#[108,97,116,101,114]⟩,.int .i64 1,.string ⟨#[98,97,99,107]⟩,.int .i64 0]:Array Value)[k * 2+1]?=some (.int .i64 0)) (w:World) :
  Calls Tryz.prog 53 #[.agg #[.int .i64 (k:Int),.int .i64 a,.int .i64 b]] w fun e w'=>e=.returned (.tuple #[.agg #[.string W,.int .i64 0],.bool (decide (a=0) && decide (b=0))])∧Below w.heap.size w w':=by
 have hd:decide ((0:Int)<=(k:Int)∧(k:Int)<=4)=true:=decide_eq_true (by omega)
 have HD:=Lib.hid hd
 obtain ⟨w0,hw0⟩:∃ w0,(w.alloc (.cells #[.int .i64 (k:Int),.int .i64 a,.int .i64 b] 39)).alloc (.cells #[.string ⟨#[]⟩,.int .i64 0] 82)=w0:=⟨_,rfl⟩
 have hz0:w0.heap.size=w.heap.size+2:=by rw [<- hw0];simp
 have hb0:Below w.heap.size w w0:=by rw [<- hw0];exact ((Below.refl _ w).alloc (Nat.le_refl _) _).alloc (by simp) _
 have bD:w0.heap[w.heap.size]?=some (.cells #[.int .i64 (k:Int),.int .i64 a,.int .i64 b] 39 (0,0)):=by rw [<- hw0];exact (Below.heap_alloc _ _ _ (by simp)).trans (heap_alloc_new _ _)
 have bR:w0.heap[w.heap.size+1]?=some (.cells #[.string ⟨#[]⟩,.int .i64 0] 82 (0,0)):=by
  rw [<- hw0]
  have h:=heap_alloc_new (w.alloc (.cells #[.int .i64 (k:Int),.int .i64 a,.int .i64 b] 39)) (.cells #[.string ⟨#[]⟩,.int .i64 0] 82)
  rwa [show (w.alloc (.cells #[.int .i64 (k:Int),.int .i64 a,.int .i64 b] 39)).heap.size=w.heap.size+1 by simp] at h
 have HS:=Lib.hid (fun (W':World) (hb:Below (w.heap.size+1) w0 W')=>show W'.cell? ⟨w.heap.size,0,none⟩=some (.int .i64 (k:Int))∧W'.cell? ⟨w.heap.size,1,none⟩=some (.int .i64 a)∧W'.cell? ⟨w.heap.size,2,none⟩=some (.int .i64 b) from by
  have b:=(hb.block w.heap.size (by omega)).trans bD
  exact ⟨cell_of_row _ w.heap.size 0 _ _ _ b,cell_of_row _ w.heap.size 1 _ _ _ b,cell_of_row _ w.heap.size 2 _ _ _ b⟩)
 have p1:(0:Int)<=(k:Int):=by omega
 have p2:(k:Int) < 5:=by omega
 clear bD hk hd
 go_enter Tryz.func53,Tryz.ntmps53
 go_wp2_with fail
 refine (c_deedForms _).mono ?_
 rintro e w1 ⟨rfl,hb1⟩
 have hz1:=hb1.size
 have c0:=(HS.out (w1.alloc (.cells #[.string ⟨#[99,111,109,101]⟩,.int .i64 2,.string ⟨#[103,111]⟩,.int .i64 0,.string ⟨#[110,101,101,100]⟩,.int .i64 1,.string ⟨#[108,97,116,101,114]⟩,.int .i64 1,.string ⟨#[98,97,99,107]⟩,.int .i64 0] 125)) ((hb1.alloc hz1 _).mono (by omega))).1
 go_wp2_with fail
 refine (c_within _ _ _ _).mono ?_
 rintro e w' ⟨rfl,rfl⟩
 rw [HD.out]
 clear c0
 obtain ⟨w2,hw2⟩:∃ w2,w1.alloc (.cells #[.string ⟨#[99,111,109,101]⟩,.int .i64 2,.string ⟨#[103,111]⟩,.int .i64 0,.string ⟨#[110,101,101,100]⟩,.int .i64 1,.string ⟨#[108,97,116,101,114]⟩,.int .i64 1,.string ⟨#[98,97,99,107]⟩,.int .i64 0] 125)=w2:=⟨_,rfl⟩
 have hb2:Below w1.heap.size w1 w2:=by rw [<- hw2];exact (Below.refl _ w1).alloc (Nat.le_refl _) _
 have hz2:w2.heap.size=w1.heap.size+1:=by rw [<- hw2];simp
 have bF:w2.heap[w1.heap.size]?=some (.cells #[.string ⟨#[99,111,109,101]⟩,.int .i64 2,.string ⟨#[103,111]⟩,.int .i64 0,.string ⟨#[110,101,101,100]⟩,.int .i64 1,.string ⟨#[108,97,116,101,114]⟩,.int .i64 1,.string ⟨#[98,97,99,107]⟩,.int .i64 0] 125 (0,0)):=by rw [<- hw2];exact heap_alloc_new _ _
 have x0:=(cell_of_row _ w1.heap.size (k * 2) _ _ _ bF).trans hA.1
 have x1:=(cell_of_row _ w1.heap.size (k * 2+1) _ _ _ bF).trans hA.2
 have hx2:=hb1.trans (hb2.mono hz1)
 obtain ⟨c0,c1,c2⟩:=HS.out _ (hx2.mono (by omega))
 rw [hw2]
 clear bF hA hw2
 have hlt2:w1.heap.size < w2.heap.size:=by omega
 clear hz2
 go_wp2_with fail
 obtain ⟨w3,hw3⟩:∃ w3,w2.alloc (.cells #[.string W,.int .i64 0] 82)=w3:=⟨_,rfl⟩
 have hb3:Below w2.heap.size w2 w3:=by rw [<- hw3];exact (Below.refl _ w2).alloc (Nat.le_refl _) _
 have hz3:w2.heap.size < w3.heap.size:=by rw [<- hw3];simp
 have bG:w3.heap[w2.heap.size]?=some (.cells #[.string W,.int .i64 0] 82 (0,0)):=by rw [<- hw3];exact heap_alloc_new _ _
 rw [hw3]
 have hx3:=hx2.trans (hb3.mono (by omega))
 have HG:=Lib.hid (fun (W':World) (hb:Below w3.heap.size w3 W')=>show W'.cell? ⟨w.heap.size,0,none⟩=some (.int .i64 (k:Int))∧W'.cell? ⟨w.heap.size,1,none⟩=some (.int .i64 a)∧W'.cell? ⟨w.heap.size,2,none⟩=some (.int .i64 b)∧W'.cell? ⟨w2.heap.size,0,none⟩=some (.string W)∧W'.cell? ⟨w2.heap.size,1,none⟩=some (.int .i64 0) from by
  have b:=(hb.block w2.heap.size (by omega)).trans bG
  obtain ⟨s0,s1,s2⟩:=HS.out W' ((hx3.trans (hb.mono (by omega))).mono (by omega))
  exact ⟨s0,s1,s2,cell_of_row _ w2.heap.size 0 _ _ _ b,cell_of_row _ w2.heap.size 1 _ _ _ b⟩)
 obtain ⟨g0,g1,g2,g3,g4⟩:=HG.out _ (Below.refl _ w3)
 have hd3:Below w3.heap.size w3 w3.drew:=(Below.refl _ w3).drew
 clear bG hb2 hb3 hw0 hw3 c0 c1 c2 x0 x1
 go_region_held3 (fun W'=>W'.cell? ⟨w.heap.size,0,none⟩=some (.int .i64 (k:Int))∧W'.cell? ⟨w.heap.size,1,none⟩=some (.int .i64 a)∧W'.cell? ⟨w.heap.size,2,none⟩=some (.int .i64 b)∧W'.cell? ⟨w2.heap.size,0,none⟩=some (.string W)∧W'.cell? ⟨w2.heap.size,1,none⟩=some (.int .i64 0))
  (first
    | go_keep
    | exact HG.out _ hx6)
  (first
    | (go_at_call 54;refine (c_numbers _ _ _ _).mono ?_;rintro e w6 ⟨g,rfl,e0,e1,hg,hb6⟩;have hx6:Below w3.heap.size w3 w6:=hd3.trans hb6))
 obtain ⟨y0,y1,y2,y3,y4⟩:=HG.out _ hx6
 have hy6:=hx3.trans (hx6.mono (by omega))
 have b6:=(hy6.block (w.heap.size+1) (by omega)).trans bR
 have r0:=cell_of_row _ (w.heap.size+1) 0 _ _ _ b6
 have r1:=cell_of_row _ (w.heap.size+1) 1 _ _ _ b6
 have f0:w6.frozen? ⟨w.heap.size+1,0,none⟩=false:=unfrozenB b6
 have f1:w6.frozen? ⟨w.heap.size+1,1,none⟩=false:=unfrozenB b6
 have hlR:w.heap.size+1 < w2.heap.size:=by omega
 have HK:=Lib.hid (fun (p q:Value)=>show ((w6.setCell ⟨w.heap.size+1,0,none⟩ p).setCell ⟨w.heap.size+1,1,none⟩ q).drew.cell? ⟨w2.heap.size,0,none⟩=some (.string W)∧((w6.setCell ⟨w.heap.size+1,0,none⟩ p).setCell ⟨w.heap.size+1,1,none⟩ q).drew.cell? ⟨w2.heap.size,1,none⟩=some (.int .i64 0) from
  ⟨(World.cell?_of_block (far2 w6 (w.heap.size+1) p q w2.heap.size (by omega))).trans y3,(World.cell?_of_block (far2 w6 (w.heap.size+1) p q w2.heap.size (by omega))).trans y4⟩)
 have E0:=Lib.hid e0
 have E1:=Lib.hid e1
 have HB:=Lib.hid b6
 have HY:=Lib.hid (show Below w.heap.size w w6 from hb0.trans (hy6.mono (by omega)))
 clear g0 g1 g2 g3 g4 y0 y1 y2 hx6 hy6 hb6 hd3 e0 e1 b6 hx2 hx3
 go_wp2_with fail
 go_region_held3 (fun W'=>W'.cell? ⟨w2.heap.size,0,none⟩=some (.string W)∧W'.cell? ⟨w2.heap.size,1,none⟩=some (.int .i64 0))
  (first
    | exact HK.out _ _
    | go_keep)
  (first
    | (go_at_call 112;refine (c_any2 a b g 0 2 _ (by exact E0.out) (by exact E1.out)).mono ?_;rintro e w' ⟨rfl,rfl⟩))
 go_wp2_with fail
 obtain ⟨k0,k1⟩:=put2 (.string W) (.int .i64 0) HB.out
 refine bodyPost_ret (v:=.tuple #[.agg #[.string W,.int .i64 0],.bool (decide (a=0) && decide (b=0))]) (by simp [results,Tryz.f53,go_sem,k0,k1]) rfl ?_
 exact ⟨rfl,(HY.out.drew.setCell (p:=⟨w.heap.size+1,0,none⟩) (by simp) _).setCell (p:=⟨w.heap.size+1,1,none⟩) (by simp) _⟩
theorem c_form1 (k:Nat) (W:ByteArray) (a b:Int) (hk:k<=4) (hA:(#[.string ⟨#[99,111,109,101]⟩,.int .i64 2,.string ⟨#[103,111]⟩,.int .i64 0,.string ⟨#[110,101,101,100]⟩,.int .i64 1,.string ⟨#[108,97,116,101,114]⟩,.int .i64 1,.string ⟨#[98,97,99,107]⟩,.int .i64 0]:Array Value)[k * 2]?=some (.string W)∧(#[.string ⟨#[99,111,109,101]⟩,.int .i64 2,.string ⟨#[103,111]⟩,.int .i64 0,.string ⟨#[110,101,101,100]⟩,.int .i64 1,.string ⟨#[108,97,116,101,114]⟩,.int .i64 1,.string ⟨#[98,97,99,107]⟩,.int .i64 0]:Array Value)[k * 2+1]?=some (.int .i64 1)) (w:World) :
  Calls Tryz.prog 53 #[.agg #[.int .i64 (k:Int),.int .i64 a,.int .i64 b]] w fun e w'=>e=.returned (.tuple #[.agg #[.string W,.int .i64 1],.bool (decide (b=0))])∧Below w.heap.size w w':=by
 have hd:decide ((0:Int)<=(k:Int)∧(k:Int)<=4)=true:=decide_eq_true (by omega)
 have HD:=Lib.hid hd
 obtain ⟨w0,hw0⟩:∃ w0,(w.alloc (.cells #[.int .i64 (k:Int),.int .i64 a,.int .i64 b] 39)).alloc (.cells #[.string ⟨#[]⟩,.int .i64 0] 82)=w0:=⟨_,rfl⟩
 have hz0:w0.heap.size=w.heap.size+2:=by rw [<- hw0];simp
 have hb0:Below w.heap.size w w0:=by rw [<- hw0];exact ((Below.refl _ w).alloc (Nat.le_refl _) _).alloc (by simp) _
 have bD:w0.heap[w.heap.size]?=some (.cells #[.int .i64 (k:Int),.int .i64 a,.int .i64 b] 39 (0,0)):=by rw [<- hw0];exact (Below.heap_alloc _ _ _ (by simp)).trans (heap_alloc_new _ _)
 have bR:w0.heap[w.heap.size+1]?=some (.cells #[.string ⟨#[]⟩,.int .i64 0] 82 (0,0)):=by
  rw [<- hw0]
  have h:=heap_alloc_new (w.alloc (.cells #[.int .i64 (k:Int),.int .i64 a,.int .i64 b] 39)) (.cells #[.string ⟨#[]⟩,.int .i64 0] 82)
  rwa [show (w.alloc (.cells #[.int .i64 (k:Int),.int .i64 a,.int .i64 b] 39)).heap.size=w.heap.size+1 by simp] at h
 have HS:=Lib.hid (fun (W':World) (hb:Below (w.heap.size+1) w0 W')=>show W'.cell? ⟨w.heap.size,0,none⟩=some (.int .i64 (k:Int))∧W'.cell? ⟨w.heap.size,1,none⟩=some (.int .i64 a)∧W'.cell? ⟨w.heap.size,2,none⟩=some (.int .i64 b) from by
  have b:=(hb.block w.heap.size (by omega)).trans bD
  exact ⟨cell_of_row _ w.heap.size 0 _ _ _ b,cell_of_row _ w.heap.size 1 _ _ _ b,cell_of_row _ w.heap.size 2 _ _ _ b⟩)
 have p1:(0:Int)<=(k:Int):=by omega
 have p2:(k:Int) < 5:=by omega
 clear bD hk hd
 go_enter Tryz.func53,Tryz.ntmps53
 go_wp2_with fail
 refine (c_deedForms _).mono ?_
 rintro e w1 ⟨rfl,hb1⟩
 have hz1:=hb1.size
 have c0:=(HS.out (w1.alloc (.cells #[.string ⟨#[99,111,109,101]⟩,.int .i64 2,.string ⟨#[103,111]⟩,.int .i64 0,.string ⟨#[110,101,101,100]⟩,.int .i64 1,.string ⟨#[108,97,116,101,114]⟩,.int .i64 1,.string ⟨#[98,97,99,107]⟩,.int .i64 0] 125)) ((hb1.alloc hz1 _).mono (by omega))).1
 go_wp2_with fail
 refine (c_within _ _ _ _).mono ?_
 rintro e w' ⟨rfl,rfl⟩
 rw [HD.out]
 clear c0
 obtain ⟨w2,hw2⟩:∃ w2,w1.alloc (.cells #[.string ⟨#[99,111,109,101]⟩,.int .i64 2,.string ⟨#[103,111]⟩,.int .i64 0,.string ⟨#[110,101,101,100]⟩,.int .i64 1,.string ⟨#[108,97,116,101,114]⟩,.int .i64 1,.string ⟨#[98,97,99,107]⟩,.int .i64 0] 125)=w2:=⟨_,rfl⟩
 have hb2:Below w1.heap.size w1 w2:=by rw [<- hw2];exact (Below.refl _ w1).alloc (Nat.le_refl _) _
 have hz2:w2.heap.size=w1.heap.size+1:=by rw [<- hw2];simp
 have bF:w2.heap[w1.heap.size]?=some (.cells #[.string ⟨#[99,111,109,101]⟩,.int .i64 2,.string ⟨#[103,111]⟩,.int .i64 0,.string ⟨#[110,101,101,100]⟩,.int .i64 1,.string ⟨#[108,97,116,101,114]⟩,.int .i64 1,.string ⟨#[98,97,99,107]⟩,.int .i64 0] 125 (0,0)):=by rw [<- hw2];exact heap_alloc_new _ _
 have x0:=(cell_of_row _ w1.heap.size (k * 2) _ _ _ bF).trans hA.1
 have x1:=(cell_of_row _ w1.heap.size (k * 2+1) _ _ _ bF).trans hA.2
 have hx2:=hb1.trans (hb2.mono hz1)
 obtain ⟨c0,c1,c2⟩:=HS.out _ (hx2.mono (by omega))
 rw [hw2]
 clear bF hA hw2
 have hlt2:w1.heap.size < w2.heap.size:=by omega
 clear hz2
 go_wp2_with fail
 obtain ⟨w3,hw3⟩:∃ w3,w2.alloc (.cells #[.string W,.int .i64 1] 82)=w3:=⟨_,rfl⟩
 have hb3:Below w2.heap.size w2 w3:=by rw [<- hw3];exact (Below.refl _ w2).alloc (Nat.le_refl _) _
 have hz3:w2.heap.size < w3.heap.size:=by rw [<- hw3];simp
 have bG:w3.heap[w2.heap.size]?=some (.cells #[.string W,.int .i64 1] 82 (0,0)):=by rw [<- hw3];exact heap_alloc_new _ _
 rw [hw3]
 have hx3:=hx2.trans (hb3.mono (by omega))
 have HG:=Lib.hid (fun (W':World) (hb:Below w3.heap.size w3 W')=>show W'.cell? ⟨w.heap.size,0,none⟩=some (.int .i64 (k:Int))∧W'.cell? ⟨w.heap.size,1,none⟩=some (.int .i64 a)∧W'.cell? ⟨w.heap.size,2,none⟩=some (.int .i64 b)∧W'.cell? ⟨w2.heap.size,0,none⟩=some (.string W)∧W'.cell? ⟨w2.heap.size,1,none⟩=some (.int .i64 1) from by
  have b:=(hb.block w2.heap.size (by omega)).trans bG
  obtain ⟨s0,s1,s2⟩:=HS.out W' ((hx3.trans (hb.mono (by omega))).mono (by omega))
  exact ⟨s0,s1,s2,cell_of_row _ w2.heap.size 0 _ _ _ b,cell_of_row _ w2.heap.size 1 _ _ _ b⟩)
 obtain ⟨g0,g1,g2,g3,g4⟩:=HG.out _ (Below.refl _ w3)
 have hd3:Below w3.heap.size w3 w3.drew:=(Below.refl _ w3).drew
 clear bG hb2 hb3 hw0 hw3 c0 c1 c2 x0 x1
 go_region_held3 (fun W'=>W'.cell? ⟨w.heap.size,0,none⟩=some (.int .i64 (k:Int))∧W'.cell? ⟨w.heap.size,1,none⟩=some (.int .i64 a)∧W'.cell? ⟨w.heap.size,2,none⟩=some (.int .i64 b)∧W'.cell? ⟨w2.heap.size,0,none⟩=some (.string W)∧W'.cell? ⟨w2.heap.size,1,none⟩=some (.int .i64 1))
  (first
    | go_keep
    | exact HG.out _ hx6)
  (first
    | (go_at_call 54;refine (c_numbers _ _ _ _).mono ?_;rintro e w6 ⟨g,rfl,e0,e1,hg,hb6⟩;have hx6:Below w3.heap.size w3 w6:=hd3.trans hb6))
 obtain ⟨y0,y1,y2,y3,y4⟩:=HG.out _ hx6
 have hy6:=hx3.trans (hx6.mono (by omega))
 have b6:=(hy6.block (w.heap.size+1) (by omega)).trans bR
 have r0:=cell_of_row _ (w.heap.size+1) 0 _ _ _ b6
 have r1:=cell_of_row _ (w.heap.size+1) 1 _ _ _ b6
 have f0:w6.frozen? ⟨w.heap.size+1,0,none⟩=false:=unfrozenB b6
 have f1:w6.frozen? ⟨w.heap.size+1,1,none⟩=false:=unfrozenB b6
 have hlR:w.heap.size+1 < w2.heap.size:=by omega
 have HK:=Lib.hid (fun (p q:Value)=>show ((w6.setCell ⟨w.heap.size+1,0,none⟩ p).setCell ⟨w.heap.size+1,1,none⟩ q).drew.cell? ⟨w2.heap.size,0,none⟩=some (.string W)∧((w6.setCell ⟨w.heap.size+1,0,none⟩ p).setCell ⟨w.heap.size+1,1,none⟩ q).drew.cell? ⟨w2.heap.size,1,none⟩=some (.int .i64 1) from
  ⟨(World.cell?_of_block (far2 w6 (w.heap.size+1) p q w2.heap.size (by omega))).trans y3,(World.cell?_of_block (far2 w6 (w.heap.size+1) p q w2.heap.size (by omega))).trans y4⟩)
 have E0:=Lib.hid e0
 have E1:=Lib.hid e1
 have HB:=Lib.hid b6
 have HY:=Lib.hid (show Below w.heap.size w w6 from hb0.trans (hy6.mono (by omega)))
 clear g0 g1 g2 g3 g4 y0 y1 y2 hx6 hy6 hb6 hd3 e0 e1 b6 hx2 hx3
 go_wp2_with fail
 go_region_held3 (fun W'=>W'.cell? ⟨w2.heap.size,0,none⟩=some (.string W)∧W'.cell? ⟨w2.heap.size,1,none⟩=some (.int .i64 1))
  (first
    | exact HK.out _ _
    | go_keep)
  (first
    | (go_at_call 112;refine (c_any1 b g 1 1 _ (by exact E1.out)).mono ?_;rintro e w' ⟨rfl,rfl⟩))
 go_wp2_with fail
 obtain ⟨k0,k1⟩:=put2 (.string W) (.int .i64 1) HB.out
 refine bodyPost_ret (v:=.tuple #[.agg #[.string W,.int .i64 1],.bool (decide (b=0))]) (by simp [results,Tryz.f53,go_sem,k0,k1]) rfl ?_
 exact ⟨rfl,(HY.out.drew.setCell (p:=⟨w.heap.size+1,0,none⟩) (by simp) _).setCell (p:=⟨w.heap.size+1,1,none⟩) (by simp) _⟩
theorem c_form2 (k:Nat) (W:ByteArray) (a b:Int) (hk:k<=4) (hA:(#[.string ⟨#[99,111,109,101]⟩,.int .i64 2,.string ⟨#[103,111]⟩,.int .i64 0,.string ⟨#[110,101,101,100]⟩,.int .i64 1,.string ⟨#[108,97,116,101,114]⟩,.int .i64 1,.string ⟨#[98,97,99,107]⟩,.int .i64 0]:Array Value)[k * 2]?=some (.string W)∧(#[.string ⟨#[99,111,109,101]⟩,.int .i64 2,.string ⟨#[103,111]⟩,.int .i64 0,.string ⟨#[110,101,101,100]⟩,.int .i64 1,.string ⟨#[108,97,116,101,114]⟩,.int .i64 1,.string ⟨#[98,97,99,107]⟩,.int .i64 0]:Array Value)[k * 2+1]?=some (.int .i64 2)) (w:World) :
  Calls Tryz.prog 53 #[.agg #[.int .i64 (k:Int),.int .i64 a,.int .i64 b]] w fun e w'=>e=.returned (.tuple #[.agg #[.string W,.int .i64 2],.bool (true)])∧Below w.heap.size w w':=by
 have hd:decide ((0:Int)<=(k:Int)∧(k:Int)<=4)=true:=decide_eq_true (by omega)
 have HD:=Lib.hid hd
 obtain ⟨w0,hw0⟩:∃ w0,(w.alloc (.cells #[.int .i64 (k:Int),.int .i64 a,.int .i64 b] 39)).alloc (.cells #[.string ⟨#[]⟩,.int .i64 0] 82)=w0:=⟨_,rfl⟩
 have hz0:w0.heap.size=w.heap.size+2:=by rw [<- hw0];simp
 have hb0:Below w.heap.size w w0:=by rw [<- hw0];exact ((Below.refl _ w).alloc (Nat.le_refl _) _).alloc (by simp) _
 have bD:w0.heap[w.heap.size]?=some (.cells #[.int .i64 (k:Int),.int .i64 a,.int .i64 b] 39 (0,0)):=by rw [<- hw0];exact (Below.heap_alloc _ _ _ (by simp)).trans (heap_alloc_new _ _)
 have bR:w0.heap[w.heap.size+1]?=some (.cells #[.string ⟨#[]⟩,.int .i64 0] 82 (0,0)):=by
  rw [<- hw0]
  have h:=heap_alloc_new (w.alloc (.cells #[.int .i64 (k:Int),.int .i64 a,.int .i64 b] 39)) (.cells #[.string ⟨#[]⟩,.int .i64 0] 82)
  rwa [show (w.alloc (.cells #[.int .i64 (k:Int),.int .i64 a,.int .i64 b] 39)).heap.size=w.heap.size+1 by simp] at h
 have HS:=Lib.hid (fun (W':World) (hb:Below (w.heap.size+1) w0 W')=>show W'.cell? ⟨w.heap.size,0,none⟩=some (.int .i64 (k:Int))∧W'.cell? ⟨w.heap.size,1,none⟩=some (.int .i64 a)∧W'.cell? ⟨w.heap.size,2,none⟩=some (.int .i64 b) from by
  have b:=(hb.block w.heap.size (by omega)).trans bD
  exact ⟨cell_of_row _ w.heap.size 0 _ _ _ b,cell_of_row _ w.heap.size 1 _ _ _ b,cell_of_row _ w.heap.size 2 _ _ _ b⟩)
 have p1:(0:Int)<=(k:Int):=by omega
 have p2:(k:Int) < 5:=by omega
 clear bD hk hd
 go_enter Tryz.func53,Tryz.ntmps53
 go_wp2_with fail
 refine (c_deedForms _).mono ?_
 rintro e w1 ⟨rfl,hb1⟩
 have hz1:=hb1.size
 have c0:=(HS.out (w1.alloc (.cells #[.string ⟨#[99,111,109,101]⟩,.int .i64 2,.string ⟨#[103,111]⟩,.int .i64 0,.string ⟨#[110,101,101,100]⟩,.int .i64 1,.string ⟨#[108,97,116,101,114]⟩,.int .i64 1,.string ⟨#[98,97,99,107]⟩,.int .i64 0] 125)) ((hb1.alloc hz1 _).mono (by omega))).1
 go_wp2_with fail
 refine (c_within _ _ _ _).mono ?_
 rintro e w' ⟨rfl,rfl⟩
 rw [HD.out]
 clear c0
 obtain ⟨w2,hw2⟩:∃ w2,w1.alloc (.cells #[.string ⟨#[99,111,109,101]⟩,.int .i64 2,.string ⟨#[103,111]⟩,.int .i64 0,.string ⟨#[110,101,101,100]⟩,.int .i64 1,.string ⟨#[108,97,116,101,114]⟩,.int .i64 1,.string ⟨#[98,97,99,107]⟩,.int .i64 0] 125)=w2:=⟨_,rfl⟩
 have hb2:Below w1.heap.size w1 w2:=by rw [<- hw2];exact (Below.refl _ w1).alloc (Nat.le_refl _) _
 have hz2:w2.heap.size=w1.heap.size+1:=by rw [<- hw2];simp
 have bF:w2.heap[w1.heap.size]?=some (.cells #[.string ⟨#[99,111,109,101]⟩,.int .i64 2,.string ⟨#[103,111]⟩,.int .i64 0,.string ⟨#[110,101,101,100]⟩,.int .i64 1,.string ⟨#[108,97,116,101,114]⟩,.int .i64 1,.string ⟨#[98,97,99,107]⟩,.int .i64 0] 125 (0,0)):=by rw [<- hw2];exact heap_alloc_new _ _
 have x0:=(cell_of_row _ w1.heap.size (k * 2) _ _ _ bF).trans hA.1
 have x1:=(cell_of_row _ w1.heap.size (k * 2+1) _ _ _ bF).trans hA.2
 have hx2:=hb1.trans (hb2.mono hz1)
 obtain ⟨c0,c1,c2⟩:=HS.out _ (hx2.mono (by omega))
 rw [hw2]
 clear bF hA hw2
 have hlt2:w1.heap.size < w2.heap.size:=by omega
 clear hz2
 go_wp2_with fail
 obtain ⟨w3,hw3⟩:∃ w3,w2.alloc (.cells #[.string W,.int .i64 2] 82)=w3:=⟨_,rfl⟩
 have hb3:Below w2.heap.size w2 w3:=by rw [<- hw3];exact (Below.refl _ w2).alloc (Nat.le_refl _) _
 have hz3:w2.heap.size < w3.heap.size:=by rw [<- hw3];simp
 have bG:w3.heap[w2.heap.size]?=some (.cells #[.string W,.int .i64 2] 82 (0,0)):=by rw [<- hw3];exact heap_alloc_new _ _
 rw [hw3]
 have hx3:=hx2.trans (hb3.mono (by omega))
 have HG:=Lib.hid (fun (W':World) (hb:Below w3.heap.size w3 W')=>show W'.cell? ⟨w.heap.size,0,none⟩=some (.int .i64 (k:Int))∧W'.cell? ⟨w.heap.size,1,none⟩=some (.int .i64 a)∧W'.cell? ⟨w.heap.size,2,none⟩=some (.int .i64 b)∧W'.cell? ⟨w2.heap.size,0,none⟩=some (.string W)∧W'.cell? ⟨w2.heap.size,1,none⟩=some (.int .i64 2) from by
  have b:=(hb.block w2.heap.size (by omega)).trans bG
  obtain ⟨s0,s1,s2⟩:=HS.out W' ((hx3.trans (hb.mono (by omega))).mono (by omega))
  exact ⟨s0,s1,s2,cell_of_row _ w2.heap.size 0 _ _ _ b,cell_of_row _ w2.heap.size 1 _ _ _ b⟩)
 obtain ⟨g0,g1,g2,g3,g4⟩:=HG.out _ (Below.refl _ w3)
 have hd3:Below w3.heap.size w3 w3.drew:=(Below.refl _ w3).drew
 clear bG hb2 hb3 hw0 hw3 c0 c1 c2 x0 x1
 go_region_held3 (fun W'=>W'.cell? ⟨w.heap.size,0,none⟩=some (.int .i64 (k:Int))∧W'.cell? ⟨w.heap.size,1,none⟩=some (.int .i64 a)∧W'.cell? ⟨w.heap.size,2,none⟩=some (.int .i64 b)∧W'.cell? ⟨w2.heap.size,0,none⟩=some (.string W)∧W'.cell? ⟨w2.heap.size,1,none⟩=some (.int .i64 2))
  (first
    | go_keep
    | exact HG.out _ hx6)
  (first
    | (go_at_call 54;refine (c_numbers _ _ _ _).mono ?_;rintro e w6 ⟨g,rfl,e0,e1,hg,hb6⟩;have hx6:Below w3.heap.size w3 w6:=hd3.trans hb6))
 obtain ⟨y0,y1,y2,y3,y4⟩:=HG.out _ hx6
 have hy6:=hx3.trans (hx6.mono (by omega))
 have b6:=(hy6.block (w.heap.size+1) (by omega)).trans bR
 have r0:=cell_of_row _ (w.heap.size+1) 0 _ _ _ b6
 have r1:=cell_of_row _ (w.heap.size+1) 1 _ _ _ b6
 have f0:w6.frozen? ⟨w.heap.size+1,0,none⟩=false:=unfrozenB b6
 have f1:w6.frozen? ⟨w.heap.size+1,1,none⟩=false:=unfrozenB b6
 have hlR:w.heap.size+1 < w2.heap.size:=by omega
 have HK:=Lib.hid (fun (p q:Value)=>show ((w6.setCell ⟨w.heap.size+1,0,none⟩ p).setCell ⟨w.heap.size+1,1,none⟩ q).drew.cell? ⟨w2.heap.size,0,none⟩=some (.string W)∧((w6.setCell ⟨w.heap.size+1,0,none⟩ p).setCell ⟨w.heap.size+1,1,none⟩ q).drew.cell? ⟨w2.heap.size,1,none⟩=some (.int .i64 2) from
  ⟨(World.cell?_of_block (far2 w6 (w.heap.size+1) p q w2.heap.size (by omega))).trans y3,(World.cell?_of_block (far2 w6 (w.heap.size+1) p q w2.heap.size (by omega))).trans y4⟩)
 have E0:=Lib.hid e0
 have E1:=Lib.hid e1
 have HB:=Lib.hid b6
 have HY:=Lib.hid (show Below w.heap.size w w6 from hb0.trans (hy6.mono (by omega)))
 clear g0 g1 g2 g3 g4 y0 y1 y2 hx6 hy6 hb6 hd3 e0 e1 b6 hx2 hx3
 go_wp2_with fail
 go_region_held3 (fun W'=>W'.cell? ⟨w2.heap.size,0,none⟩=some (.string W)∧W'.cell? ⟨w2.heap.size,1,none⟩=some (.int .i64 2))
  (first
    | exact HK.out _ _
    | go_keep)
  (first
    | (go_at_call 112;refine (c_any0 _ _ _).mono ?_;rintro e w' ⟨rfl,rfl⟩))
 go_wp2_with fail
 obtain ⟨k0,k1⟩:=put2 (.string W) (.int .i64 2) HB.out
 refine bodyPost_ret (v:=.tuple #[.agg #[.string W,.int .i64 2],.bool (true)]) (by simp [results,Tryz.f53,go_sem,k0,k1]) rfl ?_
 exact ⟨rfl,(HY.out.drew.setCell (p:=⟨w.heap.size+1,0,none⟩) (by simp) _).setCell (p:=⟨w.heap.size+1,1,none⟩) (by simp) _⟩
theorem c_formNo (k a b:Int) (hk:¬ (0<=k∧k<=4)) (w:World) :
  Calls Tryz.prog 53 #[.agg #[.int .i64 k,.int .i64 a,.int .i64 b]] w fun e w'=>(∃ f,e=.returned (.tuple #[f,.bool (formOk k a b)])∧(0<=k∧k<=4->f=formVal k)∧∃ W n,f=.agg #[.string W,.int .i64 n])∧Below w.heap.size w w':=by
 have HD:=Lib.hid (show decide ((0:Int)<=k∧k<=4)=false from decide_eq_false hk)
 have HV:=Lib.hid (formOk_no (a:=a) (b:=b) hk)
 have HK:=Lib.hid hk
 obtain ⟨w0,hw0⟩:∃ w0,(w.alloc (.cells #[.int .i64 k,.int .i64 a,.int .i64 b] 39)).alloc (.cells #[.string ⟨#[]⟩,.int .i64 0] 82)=w0:=⟨_,rfl⟩
 have hz0:w0.heap.size=w.heap.size+2:=by rw [<- hw0];simp
 have hb0:Below w.heap.size w w0:=by rw [<- hw0];exact ((Below.refl _ w).alloc (Nat.le_refl _) _).alloc (by simp) _
 have bD:w0.heap[w.heap.size]?=some (.cells #[.int .i64 k,.int .i64 a,.int .i64 b] 39 (0,0)):=by rw [<- hw0];exact (Below.heap_alloc _ _ _ (by simp)).trans (heap_alloc_new _ _)
 have bR:w0.heap[w.heap.size+1]?=some (.cells #[.string ⟨#[]⟩,.int .i64 0] 82 (0,0)):=by
  rw [<- hw0]
  have h:=heap_alloc_new (w.alloc (.cells #[.int .i64 k,.int .i64 a,.int .i64 b] 39)) (.cells #[.string ⟨#[]⟩,.int .i64 0] 82)
  rwa [show (w.alloc (.cells #[.int .i64 k,.int .i64 a,.int .i64 b] 39)).heap.size=w.heap.size+1 by simp] at h
 clear hk
 go_enter Tryz.func53,Tryz.ntmps53
 go_wp2_with fail
 refine (c_deedForms _).mono ?_
 rintro e w1 ⟨rfl,hb1⟩
 have hz1:=hb1.size
 have hx:=hb1.alloc hz1 (.cells #[.string ⟨#[99,111,109,101]⟩,.int .i64 2,.string ⟨#[103,111]⟩,.int .i64 0,.string ⟨#[110,101,101,100]⟩,.int .i64 1,.string ⟨#[108,97,116,101,114]⟩,.int .i64 1,.string ⟨#[98,97,99,107]⟩,.int .i64 0] 125)
 have c0:=cell_of_row _ w.heap.size 0 _ _ _ ((hx.block w.heap.size (by omega)).trans bD)
 go_wp2_with fail
 refine (c_within _ _ _ _).mono ?_
 rintro e w' ⟨rfl,rfl⟩
 rw [HD.out]
 obtain ⟨w2,hw2⟩:∃ w2,w1.alloc (.cells #[.string ⟨#[99,111,109,101]⟩,.int .i64 2,.string ⟨#[103,111]⟩,.int .i64 0,.string ⟨#[110,101,101,100]⟩,.int .i64 1,.string ⟨#[108,97,116,101,114]⟩,.int .i64 1,.string ⟨#[98,97,99,107]⟩,.int .i64 0] 125)=w2:=⟨_,rfl⟩
 rw [hw2]
 rw [hw2] at hx
 clear hw2 c0
 have b6:=(hx.block (w.heap.size+1) (by omega)).trans bR
 have r0:=cell_of_row _ (w.heap.size+1) 0 _ _ _ b6
 have r1:=cell_of_row _ (w.heap.size+1) 1 _ _ _ b6
 have f0:w2.frozen? ⟨w.heap.size+1,0,none⟩=false:=unfrozenB b6
 have f1:w2.frozen? ⟨w.heap.size+1,1,none⟩=false:=unfrozenB b6
 go_wp2_with fail
 obtain ⟨k0,k1⟩:=put2 (.string ⟨#[]⟩) (.int .i64 0) b6
 refine bodyPost_ret (v:=.tuple #[.agg #[.string ⟨#[]⟩,.int .i64 0],.bool false]) (by simp [results,Tryz.f53,go_sem,k0,k1]) rfl ?_
 exact ⟨⟨_,by rw [HV.out],fun h=>absurd h HK.out,_,_,rfl⟩,((hb0.trans (hx.mono (by omega))).setCell (p:=⟨w.heap.size+1,0,none⟩) (by simp) _).setCell (p:=⟨w.heap.size+1,1,none⟩) (by simp) _⟩
theorem c_form (k a b:Int) (w:World) :
  Calls Tryz.prog 53 #[.agg #[.int .i64 k,.int .i64 a,.int .i64 b]] w fun e w'=>(∃ f,e=.returned (.tuple #[f,.bool (formOk k a b)])∧(0<=k∧k<=4->f=formVal k)∧∃ W n,f=.agg #[.string W,.int .i64 n])∧Below w.heap.size w w':=by
 by_cases hk:0<=k∧k<=4
 ·have hkk:k=0∨k=1∨k=2∨k=3∨k=4:=by omega
  rcases hkk with rfl | rfl | rfl | rfl | rfl
  ·exact (c_form2 0 _ a b (by omega) ⟨rfl,rfl⟩ w).mono fun e w' h=>⟨⟨formVal 0,by rw [h.1];simp [formOk];rfl,fun _=>rfl,_,_,rfl⟩,h.2⟩
  ·exact (c_form0 1 _ a b (by omega) ⟨rfl,rfl⟩ w).mono fun e w' h=>⟨⟨formVal 1,by rw [h.1];simp [formOk];rfl,fun _=>rfl,_,_,rfl⟩,h.2⟩
  ·exact (c_form1 2 _ a b (by omega) ⟨rfl,rfl⟩ w).mono fun e w' h=>⟨⟨formVal 2,by rw [h.1];simp [formOk];rfl,fun _=>rfl,_,_,rfl⟩,h.2⟩
  ·exact (c_form1 3 _ a b (by omega) ⟨rfl,rfl⟩ w).mono fun e w' h=>⟨⟨formVal 3,by rw [h.1];simp [formOk];rfl,fun _=>rfl,_,_,rfl⟩,h.2⟩
  ·exact (c_form0 4 _ a b (by omega) ⟨rfl,rfl⟩ w).mono fun e w' h=>⟨⟨formVal 4,by rw [h.1];simp [formOk];rfl,fun _=>rfl,_,_,rfl⟩,h.2⟩
 ·exact c_formNo k a b hk w
end
section
theorem indexC_none {c:UInt8}:∀ {s:List UInt8},c ∉ s->Lib.index s [c]=-1:=by
 intro s
 induction s with
 | nil=>intro _;rfl
 | cons b l ih =>
  intro h
  have h1:¬ c=b:=fun e=>h (by simp [e])
  have h2:c ∉ l:=fun e=>h (by simp [e])
  simp [Lib.index,List.isPrefixOf,ih h2,h1]
theorem indexC_at {c:UInt8}:∀ {a:List UInt8} (b:List UInt8),c ∉ a->Lib.index (a++c::b) [c]=a.length:=by
 intro a
 induction a with
 | nil=>intro b _;simp [Lib.index,List.isPrefixOf]
 | cons x l ih =>
  intro b h
  have h1:¬ c=x:=fun e=>h (by simp [e])
  have h2:c ∉ l:=fun e=>h (by simp [e])
  have e:=ih b h2
  have hne:¬ ((l.length:Int)=-1):=by omega
  simp [Lib.index,List.isPrefixOf,e,h1,hne]
theorem cutC_none {c:UInt8} {s:List UInt8} (h:c ∉ s):Lib.cut s [c]=(s,[],false):=by
 rw [Lib.cut,indexC_none h,if_neg (by omega)]
theorem cutC_at {c:UInt8} {a:List UInt8} (b:List UInt8) (h:c ∉ a):Lib.cut (a++c::b) [c]=(a,b,true):=by
 rw [Lib.cut,indexC_at b h,if_pos (by omega)]
 simp
theorem split_at (c:UInt8) (s:List UInt8):c ∉ s∨∃ a b,s=a++c::b∧c ∉ a:=by
 induction s with
 | nil=>exact .inl (by simp)
 | cons x l ih =>
  by_cases h:c=x
  ·exact .inr ⟨[],l,by simp [h],by simp⟩
  ·rcases ih with h2 | ⟨a,b,e,ha⟩
   ·exact .inl (by simp [h,h2])
   ·exact .inr ⟨x::a,b,by simp [e],by simp [h,ha]⟩
theorem cutL_none {c:UInt8} {s:List UInt8} (h:c ∉ s):cutL c s=[s]:=by
 have:=cutS_word (sep:=c) [] s h
 simp only [List.nil_append] at this
 rw [cutL,this]
 simp [cutS]
theorem cutS_fold (c:UInt8):∀ (s:List UInt8) (p:List (List UInt8)) (w:List UInt8),s.foldl (fun s x=>if x=c then (s.1++[s.2],[]) else (s.1,s.2++[x])) (p,w)=(p++((s.foldl (fun s x=>if x=c then (s.1++[s.2],[]) else (s.1,s.2++[x])) ([],w)).1),(s.foldl (fun s x=>if x=c then (s.1++[s.2],[]) else (s.1,s.2++[x])) ([],w)).2):=by
 intro s
 induction s with
 | nil=>intro p w;simp
 | cons x l ih =>
  intro p w
  simp only [List.foldl_cons]
  by_cases h:x=c
  ·simp only [if_pos h]
   rw [ih (p++[w]),ih ([]++[w])]
   simp
  ·simp only [if_neg h]
   rw [ih p]
theorem cutL_at {c:UInt8} {a:List UInt8} (b:List UInt8) (h:c ∉ a):cutL c (a++c::b)=a::cutL c b:=by
 have h1:=cutS_word (sep:=c) [] a h
 simp only [List.nil_append] at h1
 have h2:cutS c (a++[c])=([a],[]):=by rw [cutS_snoc,if_pos rfl,h1];simp [cutS]
 have h3:cutS c (a++c::b)=([a]++(cutS c b).1,(cutS c b).2):=by
  have e:a++c::b=(a++[c])++b:=by simp
  rw [e]
  show ((a++[c])++b).foldl _ _=_
  rw [List.foldl_append]
  have h2':(a++[c]).foldl (fun s x=>if x=c then (s.1++[s.2],[]) else (s.1,s.2++[x])) ([],[])=([a],[]):=h2
  rw [h2',cutS_fold]
  rfl
 rw [cutL,h3,cutL]
 simp
theorem decFrom_val:∀ (l:List UInt8) (acc:Nat),l.all isD=true->Lib.decFrom acc l=some (l.foldl (fun n c=>10 * n+(c.toNat - 48)) acc):=by
 intro l
 induction l with
 | nil=>intro acc _;rfl
 | cons b r ih =>
  intro acc h
  simp only [List.all_cons,Bool.and_eq_true] at h
  have hd:=isD_nat h.1
  rw [Lib.decFrom,Lib.digitVal,if_pos hd]
  simp only [List.foldl_cons]
  rw [ih _ h.2,show acc * 10+(b.toNat - 48)=10 * acc+(b.toNat - 48) by omega]
theorem atoi_val {l:List UInt8} (hl:l≠[]) (h:l.all isD=true):Lib.atoi l=some (valN l:Int):=by
 cases l with
 | nil=>exact absurd rfl hl
 | cons b r =>
  have hd:isD b=true:=by simp only [List.all_cons,Bool.and_eq_true] at h;exact h.1
  have hn:=isD_nat hd
  have h1:(b == 45)=false:=by
   cases hb:(b == 45) with
   | false=>rfl
   | true=>rw [eq_of_beq hb] at hn;simp at hn
  have h2:(b == 43)=false:=by
   cases hb:(b == 43) with
   | false=>rfl
   | true=>rw [eq_of_beq hb] at hn;simp at hn
  rw [Lib.atoi,h1,h2]
  simp only [Bool.false_eq_true,if_false]
  rw [Lib.decNat,if_neg (by simp),decFrom_val _ 0 h]
  rfl
end
end Go.Proofs.YthpccmkagikhjaaGreatDoor

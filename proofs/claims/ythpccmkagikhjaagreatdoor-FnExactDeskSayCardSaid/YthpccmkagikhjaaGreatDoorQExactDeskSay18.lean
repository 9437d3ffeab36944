import Derived.Test.YthpccmkagikhjaaGreatDoorQExactDeskSay7
import Derived.Test.YthpccmkagikhjaaGreatDoorQExactDeskSay10
import Derived.Test.YthpccmkagikhjaaGreatDoorQExactDeskSay13
import Derived.Test.YthpccmkagikhjaaGreatDoorQExactDeskSay17
namespace Go.Proofs.YthpccmkagikhjaaGreatDoor
set_option linter.unusedVariables false
open Go.RowKit
set_option maxRecDepth 8000
set_option maxHeartbeats 8000000
section
attribute [local go_sem ↓] Go.wp_at_zero Go.wp_at_succ
def SayAp (ov un up:Value) (us:List Value) (n:Nat):Prop:=∀ r,ov.ownBlock=some r->un.ownBlock≠some r∧up.ownBlock≠some r∧∀ k,k < n->(us.getD k undef).ownBlock≠some r
def SayP (D:KV) (ls:List (List UInt8)) (w:World) (e:Ending) (w':World):Prop :=
 ∃ vn vp vs ov,e=.returned (.tuple #[.agg #[vn,vp],ov])∧KO w' w.heap.size vn vp (deskSay D ls).1 vs∧SO w' w.heap.size ov (deskSay D ls).2∧SayAp ov vn vp vs (deskSay D ls).1.past.length∧Below w.heap.size w w'
theorem sayTo_at (D:KV) {ls:List (List UInt8)} {k:Nat} (h:k < ls.length):sayTo D (ls.take (k+1))=((deskLine (sayTo D (ls.take k)).1 (ZS ls k)).1,(sayTo D (ls.take k)).2++[(deskLine (sayTo D (ls.take k)).1 (ZS ls k)).2]):=by
 have e:ls.take (k+1)=ls.take k++[ZS ls k]:=by
  rw [List.take_succ_eq_append_getElem h]
  simp [ZS,h]
 rw [e,sayTo_snoc]
theorem KO.apart {w:World} {base r:Nat} {vn vp:Value} {D:KV} {vs:List Value} (h:KO w base vn vp D vs) (hr:r < base∨w.heap.size<=r):vn.ownBlock≠some r∧vp.ownBlock≠some r∧∀ k,k < D.past.length->(vs.getD k undef).ownBlock≠some r:=by
 refine ⟨fun e=>?_,fun e=>?_,fun k hk e=>?_⟩
 ·have h1:=owns_base h.now r e
  have h2:=owns_lt h.now r e
  omega
 ·have:=h.past.base_lt r e
  omega
 ·have hi:=h.past.inner k hk
  have h1:=owns_base hi r e
  have h2:=owns_lt hi r e
  omega
section
variable {w:World}
theorem app_S2 {ops:Array Oper} {rest:List Oper} {o:Oper} {a:Act} {Q:Exit->Act->World->Prop} (hgd:o.guard=none) (s x:Operand)
  (ho:o.op=.call { callee:=.builtin .append,args:=#[s,x],argTypes:=#[48,48] })
  (base:Nat) (v:Value) (xs:List (List UInt8)) (y:List UInt8) (B:Nat) (hs:a.eval s=v) (hown:SO w base v xs) (hx:a.eval x=.slice (some ⟨B,0,none⟩) 1 1)
  (hB:w.heap[B]?=some (.cells #[.string (bs y)] 9 (0,0))) (hlen:xs.length<=1000000000000) (hbase:base<=w.heap.size)
  (h:∀ g cap w',SO w' base (.slice (some ⟨g,0,none⟩) (xs.length+1) cap) (xs++[y])->w.grownBy w' v.ownBlock->(v.ownBlock=some g∨g=w.heap.size)->wpList Tryz.prog ops Q rest (a.put o.dst (.slice (some ⟨g,0,none⟩) (xs.length+1) cap)) w') :
  wpList Tryz.prog ops Q (o::rest) a w:=by
 obtain ⟨i0,hi,hz0,hz1,hz2⟩:=info_parts infoStr
 refine wpList_append_lies w hgd s x _ ho base 9 i0 _ 1 16 Tryz.underlying48 hi hz0 hz1 hz2 rfl (by decide) v xs.length _ hs hown
  ⟨B,0,none⟩ 1 1 [.string (bs y)] hx rfl (World.news_of_block (cs:=#[.string (bs y)]) hB) (by simp [Value.oneCell']) (by decide) (by simp only [maxLen];omega) (by omega) hbase _ rfl ?_
 intro g cap w' h1 h2 h3 _
 exact h g cap w' (by simpa [SO,sv] using h1) h2 h3
end
theorem c_sDeskSay (D:KV) (ls:List (List UInt8)) (vn vp:Value) (A:Option Addr) (c:Nat) (w:World) (hK:Ks w w.heap.size vn vp D) (hs:SmallK D) (hE:Ss w w.heap.size A ls) (hn:ls.length<=140737488351232) (hl:∀ k,k < ls.length->(ZS ls k).length<=100000000) :
  Calls Tryz.prog 26 #[.agg #[vn,vp],.slice A ls.length c] w (SayP D ls w):=by
 obtain ⟨w0,hw0⟩:∃ w0,((w.alloc (.cells #[vn,vp] 31)).alloc (.cells #[.slice none 0 0,.slice none 0 0] 31)).alloc (.cells #[] 9)=w0:=⟨_,rfl⟩
 have hz0:w0.heap.size=w.heap.size+3:=by rw [<- hw0];simp
 have hb0:Below w.heap.size w w0:=by rw [<- hw0];exact (((Below.refl _ w).alloc (Nat.le_refl _) _).alloc (by simp) _).alloc (by simp;omega) _
 have bD:w0.heap[w.heap.size]?=some (.cells #[vn,vp] 31 (0,0)):=by rw [<- hw0];exact (Below.heap_alloc _ _ _ (by simp;omega)).trans ((Below.heap_alloc _ _ _ (by simp)).trans (heap_alloc_new _ _))
 have bR:w0.heap[w.heap.size+1]?=some (.cells #[.slice none 0 0,.slice none 0 0] 31 (0,0)):=by rw [<- hw0];exact (Below.heap_alloc _ _ _ (by simp)).trans (heap_newK _ _ _)
 have own0:SO w0 (w.heap.size+2) (.slice (some ⟨w.heap.size+2,0,none⟩) 0 0) []:=by
  have:=SO.empty ((w.alloc (.cells #[vn,vp] 31)).alloc (.cells #[.slice none 0 0,.slice none 0 0] 31)) (base:=w.heap.size+2) (by simp)
  rw [hw0] at this
  simpa using this
 have hK0:=(hK.below hb0).more (show w.heap.size<=w0.heap.size by omega)
 have HO:=Lib.hid (c_sDeskOk D vn vp w0 hK0 hs)
 have d0:=cell_of_row _ w.heap.size 0 _ _ _ bD
 have d1:=cell_of_row _ w.heap.size 1 _ _ _ bD
 by_cases hok:sayOk D ls=true
 ·have HV:=Lib.hid (deskSay_yes hok)
  have hparts:deskOk D=true∧ls.length<=40:=by simpa [sayOk] using hok
  have ho:=hparts.1
  have h40:=hparts.2
  have H:=Lib.hid ho
  have p40:¬ (40:Int) < (ls.length:Int):=by omega
  have HCp:=Lib.hid (fun (w':World) (hb:Below w0.heap.size w0 w')=>c_sCopy D vn vp w' ((hK0.below hb).more hb.size) hs)
  obtain ⟨⟨An,cn,rfl,hcn,hN⟩,Ap,cp,rfl,hcp,hP⟩:=hK0
  clear hK hs hok hparts
  go_enter Tryz.func26,Tryz.ntmps26
  go_wp2_with fail
  refine HO.out.mono ?_
  rintro e w1 ⟨rfl,hb1⟩
  rw [H.out]
  clear hw0
  have hz1:=hb1.size
  have g0:=(hb1.cell (p:=⟨w.heap.size,0,none⟩) (show w.heap.size < w0.heap.size by omega)).trans d0
  have g1:=(hb1.cell (p:=⟨w.heap.size,1,none⟩) (show w.heap.size < w0.heap.size by omega)).trans d1
  go_wp2_with fail
  refine (HCp.out _ hb1).mono ?_
  rintro e w2 ⟨un,up,us,rfl,hC,hb2⟩
  have hz2:=hb2.size
  have hx2:=hb1.trans (hb2.mono hz1)
  obtain ⟨Gn,gn,rfl,hgn,-⟩:=hC.now.formG
  obtain ⟨Gp,gp,rfl,hgp,hgm,-⟩:=hC.past.form
  obtain ⟨w3,hw3⟩:∃ w3,w2.alloc (.cells #[.slice Gn D.now.length gn,.slice Gp D.past.length gp] 31)=w3:=⟨_,rfl⟩
  have hz3:w2.heap.size < w3.heap.size:=by rw [<- hw3];simp
  have hb3:Below w2.heap.size w2 w3:=by rw [<- hw3];exact (Below.refl _ w2).alloc (Nat.le_refl _) _
  have bO:w3.heap[w2.heap.size]?=some (.cells #[.slice Gn D.now.length gn,.slice Gp D.past.length gp] 31 (0,0)):=by rw [<- hw3];exact heap_alloc_new _ _
  have hx3:=hx2.trans (hb3.mono (by omega))
  have ko3:KO w3 w1.heap.size (.slice Gn D.now.length gn) (.slice Gp D.past.length gp) D us:=hC.ko.below hb3 (Nat.le_refl _)
  have own3:=own0.below hx3 (Nat.le_refl _)
  have ap3:SayAp (.slice (some ⟨w.heap.size+2,0,none⟩) 0 0) (.slice Gn D.now.length gn) (.slice Gp D.past.length gp) us D.past.length:=fun r e=>ko3.apart (.inl (by simp [Value.ownBlock] at e;omega))
  clear g0 g1 d0 d1 hC own0
  go_wp2_with fail
  have HE:=Lib.hid hE
  have HR:=Lib.hid (fun k (hk:k < ls.length)=>sayTo_at D hk)
  have HOk:=Lib.hid (fun k=>(sayTo_ok H.out (ls.take k)).1)
  have HLen:=Lib.hid (fun k=>sayTo_len D (ls.take k))
  have HL:=Lib.hid hl
  clear hE hw3 hl
  go_loopw [6,8] (fun ov i wr=>∃ (k:Nat) (xn xp:Value) (xs:List Value),k<=ls.length∧i=.int .i64 (k:Int)∧wr.heap[w2.heap.size]?=some (.cells #[xn,xp] 31 (0,0))∧KO wr w1.heap.size xn xp (sayTo D (ls.take k)).1 xs∧SO wr (w.heap.size+2) ov (sayTo D (ls.take k)).2∧SayAp ov xn xp xs (sayTo D (ls.take k)).1.past.length∧(∀ r,ov.ownBlock=some r->r≠w2.heap.size)∧Below (w.heap.size+2) w0 wr∧w3.heap.size<=wr.heap.size) (fun _ i _=>ls.length - (intOf i).toNat)
  case atStart=>exact ⟨0,_,_,_,by omega,rfl,bO,ko3,own3,ap3,fun r e=>by simp [Value.ownBlock] at e;omega,hx3.mono (by omega),Nat.le_refl _⟩
  case round =>
   clear ko3 bO own3 ap3
   obtain ⟨k,xn,xp,xs,hk,rfl,bO,ko,own,ap,hne,hb,hsz⟩:=hrel
   have hOl:=(Array.getElem?_eq_some_iff.1 bO).1
   have p1:(0:Int)<=(k:Int):=by omega
   obtain ⟨X1,x1,X2,x2,rfl,rfl⟩:=ko.slices
   have q5:=cell_of_row _ w2.heap.size 0 _ _ _ bO
   have q6:=cell_of_row _ w2.heap.size 1 _ _ _ bO
   have hbw:=hb0.trans (hb.mono (by omega))
   have hok:=HOk.out k
   have hRk:=HR.out k
   have hle:=HLen.out k
   rw [List.length_take] at hle
   generalize hrk:sayTo D (ls.take k)=rk at *
   have HRK:=Lib.hid hrk
   clear hrk
   obtain ⟨Dk,ak⟩:=rk
   simp only at ko own ap hok hRk hle bO q5 q6
   by_cases hlt:k < ls.length
   ·have p2:(k:Int) < (ls.length:Int):=by omega
    have hRk:=hRk hlt
    obtain ⟨b,off,rfl,hlb,hcc⟩:=HE.out (by omega)
    have e0:=(hbw.cell (p:=⟨b,off+k,none⟩) hlb).trans (hcc k hlt)
    clear hcc
    have hll:=HL.out k hlt
    obtain ⟨l,hd⟩:∃ l,ZS ls k=l:=⟨_,rfl⟩
    rw [hd] at e0 hRk hll
    have HN:=Lib.hid hRk
    have HLn:=Lib.hid (fun (W:World) (hbW:Below wr.heap.size wr W)=>c_sDeskLine Dk (.slice X1 Dk.now.length x1) (.slice X2 Dk.past.length x2) l W ((ko.ks.below hbW).more hbW.size) (small_ok hok) hll)
    have HS:=Lib.hid (fun (W:World) (hbW:Below wr.heap.size wr W)=>show W.cell? ⟨w2.heap.size,0,none⟩=some (.slice X1 Dk.now.length x1)∧W.cell? ⟨w2.heap.size,1,none⟩=some (.slice X2 Dk.past.length x2)∧W.cell? ⟨b,off+k,none⟩=some (.string (bs l)) from
     ⟨(hbW.cell (p:=⟨w2.heap.size,0,none⟩) hOl).trans q5,(hbW.cell (p:=⟨w2.heap.size,1,none⟩) hOl).trans q6,(hbW.cell (p:=⟨b,off+k,none⟩) (show b < wr.heap.size by omega)).trans e0⟩)
    have HLe:=Lib.hid (show ak.length<=1000000000000 by omega)
    clear hRk hd hll hle
    go_wp2_with fail
    go_region_held3 (fun W=>W.cell? ⟨w2.heap.size,0,none⟩=some (.slice X1 Dk.now.length x1)∧W.cell? ⟨w2.heap.size,1,none⟩=some (.slice X2 Dk.past.length x2)∧W.cell? ⟨b,off+k,none⟩=some (.string (bs l)))
     (first
       | go_keep
       | exact HS.out _ hx6
       | exact HS.out _ ((Below.refl _ wr).drew.alloc (Nat.le_refl _) _)
       | exact HS.out _ (hx6.alloc hx6.size _)
       | exact HS.out _ hX)
     (first
        | (go_at_call 21;refine (HLn.out wr.drew (Below.refl _ wr).drew).mono ?_;rintro e w6 ⟨yn,yp,ys,rfl,o6,hb6⟩;obtain ⟨A5,c5,A6,c6,rfl,rfl⟩:=o6.slices;have hx6:Below wr.heap.size wr w6:=(Below.refl _ wr).drew.trans hb6;obtain ⟨WX,hWX⟩:∃ WX,w6.alloc (.cells #[.slice A5 (deskLine Dk l).1.now.length c5,.slice A6 (deskLine Dk l).1.past.length c6] 31)=WX:=⟨_,rfl⟩;have bX:∃ Bx,Bx=w6.heap.size∧wr.heap.size<=Bx∧WX.heap[Bx]?=some (.cells #[.slice A5 (deskLine Dk l).1.now.length c5,.slice A6 (deskLine Dk l).1.past.length c6] 31 (0,0)):=⟨_,rfl,hx6.size,by rw [<- hWX];exact heap_alloc_new _ _⟩;have hX:Below wr.heap.size wr WX:=(by rw [<- hWX];exact hx6.alloc hx6.size _);have oX:KO WX wr.heap.size (.slice A5 (deskLine Dk l).1.now.length c5) (.slice A6 (deskLine Dk l).1.past.length c6) (deskLine Dk l).1 ys:=(by rw [<- hWX];exact o6.below ((Below.refl w6.heap.size w6).alloc (Nat.le_refl _) _) (Nat.le_refl _)))
        | (go_at_call 21;refine (HLn.out (wr.drew.alloc (.cells #[.slice none 0 0,.slice none 0 0] 31)) ((Below.refl _ wr).drew.alloc (Nat.le_refl _) _)).mono ?_;rintro e w6 ⟨yn,yp,ys,rfl,o6,hb6⟩;obtain ⟨A5,c5,A6,c6,rfl,rfl⟩:=o6.slices;have hx6:Below wr.heap.size wr w6:=((Below.refl _ wr).drew.alloc (Nat.le_refl _) _).trans (hb6.mono (by simp));have bx:=(hb6.block wr.heap.size (by simp)).trans (heap_alloc_new wr.drew (.cells #[.slice none 0 0,.slice none 0 0] 31));have x0:=cell_of_row _ wr.heap.size 0 _ _ _ bx;have x1':=cell_of_row _ wr.heap.size 1 _ _ _ bx;have z0:w6.frozen? ⟨wr.heap.size,0,none⟩=false:=unfrozen_of bx;have z1:w6.frozen? ⟨wr.heap.size,1,none⟩=false:=unfrozen_of bx;obtain ⟨Wa,hWa⟩:∃ Wa,w6.setCell ⟨wr.heap.size,0,none⟩ (.slice A5 (deskLine Dk l).1.now.length c5)=Wa:=⟨_,rfl⟩;obtain ⟨WX,hWX⟩:∃ WX,Wa.setCell ⟨wr.heap.size,1,none⟩ (.slice A6 (deskLine Dk l).1.past.length c6)=WX:=⟨_,rfl⟩;have bxa:Wa.heap[wr.heap.size]?=some (.cells #[.slice A5 (deskLine Dk l).1.now.length c5,.slice none 0 0] 31 (0,0)):=(by rw [<- hWa];exact set2a _ bx);have x2':=cell_of_row _ wr.heap.size 1 _ _ _ bxa;have z2:Wa.frozen? ⟨wr.heap.size,1,none⟩=false:=unfrozen_of bxa;have bX:∃ Bx,Bx=wr.heap.size∧wr.heap.size<=Bx∧WX.heap[Bx]?=some (.cells #[.slice A5 (deskLine Dk l).1.now.length c5,.slice A6 (deskLine Dk l).1.past.length c6] 31 (0,0)):=⟨_,rfl,Nat.le_refl _,by rw [<- hWX];exact set2b _ bxa⟩;have hgX:w6.grownBy WX (some wr.heap.size):=(by rw [<- hWX,<- hWa];exact W2_grown _ _ _ _);have hX:Below wr.heap.size wr WX:=hx6.grown hgX hx6.size (fun k e=>by cases e;exact Nat.le_refl _);have oX:KO WX wr.heap.size (.slice A5 (deskLine Dk l).1.now.length c5) (.slice A6 (deskLine Dk l).1.past.length c6) (deskLine Dk l).1 ys:=(o6.keptLow hgX (by simp)).mono (by simp)))
    all_goals
     obtain ⟨Bx,hBx,hBl,bX⟩:=bX
     try rw [hWX]
     have bO7:=(hX.block w2.heap.size hOl).trans bO
     subst hBx
     have hWX0:=hWX
     clear hWX
     have v0:=cell_of_row _ _ 0 _ _ _ bX
     have v1:=cell_of_row _ _ 1 _ _ _ bX
     have hzX:=hX.size
     obtain ⟨Wb,hWb⟩:∃ Wb,WX.setCell ⟨w2.heap.size,0,none⟩ (.slice A5 (deskLine Dk l).1.now.length c5)=Wb:=⟨_,rfl⟩
     obtain ⟨WO,hWO⟩:∃ WO,Wb.setCell ⟨w2.heap.size,1,none⟩ (.slice A6 (deskLine Dk l).1.past.length c6)=WO:=⟨_,rfl⟩
     have bOb:Wb.heap[w2.heap.size]?=some (.cells #[(.slice A5 (deskLine Dk l).1.now.length c5),.slice X2 Dk.past.length x2] 31 (0,0)):=by rw [<- hWb];exact set2a _ bO7
     have t0:=cell_of_row _ w2.heap.size 0 _ _ _ bO7
     have t1:=cell_of_row _ w2.heap.size 1 _ _ _ bOb
     have s0:WX.frozen? ⟨w2.heap.size,0,none⟩=false:=unfrozen_of bO7
     have s1:Wb.frozen? ⟨w2.heap.size,1,none⟩=false:=unfrozen_of bOb
     have bO8:WO.heap[w2.heap.size]?=some (.cells #[(.slice A5 (deskLine Dk l).1.now.length c5),(.slice A6 (deskLine Dk l).1.past.length c6)] 31 (0,0)):=by rw [<- hWO];exact set2b _ bOb
     have hgO:WX.grownBy WO (some w2.heap.size):=by rw [<- hWO,<- hWb];exact W2_grown _ _ _ _
     have ko8:KO WO wr.heap.size (.slice A5 (deskLine Dk l).1.now.length c5) (.slice A6 (deskLine Dk l).1.past.length c6) (deskLine Dk l).1 ys:=oX.keptLow hgO hOl
     have own8:SO WO (w.heap.size+2) u6 ak:=World.ownsRow.kept (own.below hX (Nat.le_refl _)) hgO (.inr fun e=>hne _ e rfl)
     have hob:=owns_lt own
     have hobb:=owns_base own
     have hzO:=World.grownBy.size hgO
     have hb8:Below (w.heap.size+2) w0 WO:=(hb.trans (hX.mono (by omega))).grown hgO (by omega) (fun k e=>by cases e;omega)
     have HK8:=Lib.hid bO8
     have HK9:=Lib.hid ko8
     have HB8:=Lib.hid hb8
     have q7:w.heap.size+2<=(WO.alloc (.cells #[.string (bs (deskLine Dk l).2)] 9)).heap.size:=by simp;omega
     have hbA:Below (w.heap.size+2) w0 (WO.alloc (.cells #[.string (bs (deskLine Dk l).2)] 9)):=hb8.alloc (by omega) _
     clear bX oX bO7 bOb bO8 hgO hWX0 HLn hb8
     go_wp2_with (refine app_S2 (by rfl) (.tmp 40) (.tmp 42) (by rfl) (w.heap.size+2) u6 ak (deskLine Dk l).2 WO.heap.size (by rfl) (own8.alloc _) (by rfl) (heap_alloc_new _ _) HLe.out q7 ?_;intro g9 cap9 w9 own9 hgr9 hor9)
     have hz9:=World.grownBy.size hgr9
     simp only [World.size_alloc] at hz9 hor9
     have hob8:=hob
     go_wp2_with fail
     go_roundw
     case rel =>
      have hg9:∀ r,(Value.slice (some ⟨g9,0,none⟩) (ak.length+1) cap9).ownBlock=some r->(u6.ownBlock=some r∧r < wr.heap.size)∨r=WO.heap.size+1:=fun r e=>by
       have er:g9=r:=by simpa [Value.ownBlock] using e
       subst er
       rcases hor9 with h | h
       ·exact .inl ⟨h,hob8 _ h⟩
       ·exact .inr h
      have koA:=ko8.below ((Below.refl WO.heap.size WO).alloc (Nat.le_refl _) (.cells #[.string (bs (deskLine Dk l).2)] 9)) (Nat.le_refl _)
      have ko9:KO w9 wr.heap.size (.slice A5 (deskLine Dk l).1.now.length c5) (.slice A6 (deskLine Dk l).1.past.length c6) (deskLine Dk l).1 ys:=by
       cases hu:u6.ownBlock with
       | none=>rw [hu] at hgr9;exact koA.below (B:=(WO.alloc (.cells #[.string (bs (deskLine Dk l).2)] 9)).heap.size) ((Below.refl _ _).grown hgr9 (Nat.le_refl _) (fun k e=>by cases e)) (Nat.le_refl _)
       | some r=>rw [hu] at hgr9;exact koA.keptLow hgr9 (hob8 _ hu)
      refine ⟨k+1,_,_,ys,by omega,by go_num,?_,by rw [HN.out];exact ko9.mono (by omega),by rw [HN.out];simpa using own9,?_,fun r e=>?_,hbA.grown hgr9 q7 (fun r e=>hobb r e),by omega⟩
      ·exact (hgr9.block _ (by simp;omega) (fun e=>hne _ e.symm rfl)).trans ((Below.heap_alloc _ _ _ (by omega)).trans HK8.out)
      ·rw [HN.out]
       intro r e
       rcases hg9 r e with ⟨_,h⟩ | h
       ·exact HK9.out.apart (.inl h)
       ·exact HK9.out.apart (.inr (by omega))
      ·rcases hg9 r e with ⟨h,_⟩ | h
       ·exact hne _ h
       ·omega
     case measure=>simp [intOf];omega
   ·have p2:¬ (k:Int) < (ls.length:Int):=by omega
    have hkl:ls.take k=ls:=List.take_of_length_le (by omega)
    have HV2:=Lib.hid (show deskSay D ls=(Dk,ak) by rw [HV.out,<- hkl];exact HRK.out)
    have bRR:=(hb.block (w.heap.size+1) (by omega)).trans bR
    obtain ⟨Wb,hWb⟩:∃ Wb,wr.setCell ⟨w.heap.size+1,0,none⟩ (.slice X1 Dk.now.length x1)=Wb:=⟨_,rfl⟩
    obtain ⟨WO,hWO⟩:∃ WO,Wb.setCell ⟨w.heap.size+1,1,none⟩ (.slice X2 Dk.past.length x2)=WO:=⟨_,rfl⟩
    have bOb:Wb.heap[w.heap.size+1]?=some (.cells #[.slice X1 Dk.now.length x1,.slice none 0 0] 31 (0,0)):=by rw [<- hWb];exact set2a _ bRR
    have t0:=cell_of_row _ (w.heap.size+1) 0 _ _ _ bRR
    have t1:=cell_of_row _ (w.heap.size+1) 1 _ _ _ bOb
    have s0:wr.frozen? ⟨w.heap.size+1,0,none⟩=false:=unfrozen_of bRR
    have s1:Wb.frozen? ⟨w.heap.size+1,1,none⟩=false:=unfrozen_of bOb
    have HB8:Hid (WO.heap[w.heap.size+1]?=some (.cells #[.slice X1 Dk.now.length x1,.slice X2 Dk.past.length x2] 31 (0,0))):=by rw [<- hWO];exact set2b _ bOb
    have hgO:wr.grownBy WO (some (w.heap.size+1)):=by rw [<- hWO,<- hWb];exact W2_grown _ _ _ _
    have HK:=Lib.hid ((ko.keptLow hgO (by omega)).mono (show w.heap.size<=w1.heap.size by omega))
    have HSO:Hid (SO WO (w.heap.size+2) u6 ak):=Lib.hid (World.ownsRow.kept own hgO (.inr fun e=>by have:=owns_base own _ e;omega))
    have HW:=Lib.hid (hbw.grown hgO (by omega) (fun k e=>by cases e;omega))
    have HAp:=Lib.hid ap
    obtain ⟨O9,o9,rfl,-,-,-⟩:=own.form
    clear bRR bOb hgO ko hbw bO hRk hkl own ap hle
    go_wp2_with fail
    have b7:=HB8.out
    have k0:=cell_of_row _ (w.heap.size+1) 0 _ _ _ b7
    have k1:=cell_of_row _ (w.heap.size+1) 1 _ _ _ b7
    refine bodyPost_ret (v:=.tuple #[.agg #[.slice X1 Dk.now.length x1,.slice X2 Dk.past.length x2],.slice O9 ak.length o9]) (by simp [results,Tryz.f26,go_sem,k0,k1]) rfl ?_
    exact ⟨_,_,xs,_,rfl,by rw [HV2.out];exact HK.out,by rw [HV2.out];exact HSO.out.mono (by omega),by rw [HV2.out];exact HAp.out,HW.out⟩
 ·have hno:sayOk D ls=false:=by simpa using hok
  have HV:=Lib.hid (deskSay_no hno)
  have HBad:Hid (deskOk D=false∨¬ ls.length<=40):=by
   by_cases hd:deskOk D=true
   ·right;intro h;simp [sayOk,hd,h] at hno
   ·left;simpa using hd
  have own0':=Lib.hid own0
  clear hok hno hK hK0 hs own0
  cases ho:deskOk D with
  | false =>
   rw [ho] at HO
   clear ho HBad
   go_enter Tryz.func26,Tryz.ntmps26
   go_wp2_with fail
   refine HO.out.mono ?_
   rintro e w1 ⟨rfl,hb1⟩
   have b1:=(hb1.block (w.heap.size+1) (by omega)).trans bR
   have r0:=cell_of_row _ (w.heap.size+1) 0 _ _ _ b1
   have r1:=cell_of_row _ (w.heap.size+1) 1 _ _ _ b1
   have f0:w1.frozen? ⟨w.heap.size+1,0,none⟩=false:=unfrozen_of b1
   have f1:w1.frozen? ⟨w.heap.size+1,1,none⟩=false:=unfrozen_of b1
   have own1:=own0'.out.below hb1 (Nat.le_refl _)
   clear hw0
   go_wp2_with fail
   have b7:=set2b (.slice none 0 0) (set2a (.slice none 0 0) b1)
   have k0:=cell_of_row _ (w.heap.size+1) 0 _ _ _ b7
   have k1:=cell_of_row _ (w.heap.size+1) 1 _ _ _ b7
   refine bodyPost_ret (v:=.tuple #[.agg #[.slice none 0 0,.slice none 0 0],.slice (some ⟨w.heap.size+2,0,none⟩) 0 0]) (by simp [results,Tryz.f26,go_sem,k0,k1]) rfl ?_
   have hg:w1.grownBy ((w1.setCell ⟨w.heap.size+1,0,none⟩ (.slice none 0 0)).setCell ⟨w.heap.size+1,1,none⟩ (.slice none 0 0)) (some (w.heap.size+1)):=W2_grown _ _ _ _
   exact ⟨_,_,[],_,rfl,by rw [HV.out];exact KO.zero _ _,by rw [HV.out];exact SO.mono (base:=w.heap.size+2) (World.ownsRow.kept own1 hg (.inr fun e=>by simp [Value.ownBlock] at e)) (by omega),by rw [HV.out];exact fun r e=>⟨by simp [Value.ownBlock],by simp [Value.ownBlock],fun k hk=>by simp [noK] at hk⟩,(hb0.trans (hb1.mono (by omega))).grown hg (by have:=hb1.size;omega) (fun k e=>by cases e;omega)⟩
  | true =>
   have h40:¬ ls.length<=40:=by rcases HBad.out with h | h;(rw [ho] at h;cases h);exact h
   have p40:(40:Int) < (ls.length:Int):=by omega
   rw [ho] at HO
   clear ho HBad h40
   go_enter Tryz.func26,Tryz.ntmps26
   go_wp2_with fail
   refine HO.out.mono ?_
   rintro e w1 ⟨rfl,hb1⟩
   have b1:=(hb1.block (w.heap.size+1) (by omega)).trans bR
   have r0:=cell_of_row _ (w.heap.size+1) 0 _ _ _ b1
   have r1:=cell_of_row _ (w.heap.size+1) 1 _ _ _ b1
   have f0:w1.frozen? ⟨w.heap.size+1,0,none⟩=false:=unfrozen_of b1
   have f1:w1.frozen? ⟨w.heap.size+1,1,none⟩=false:=unfrozen_of b1
   have own1:=own0'.out.below hb1 (Nat.le_refl _)
   clear hw0
   go_wp2_with fail
   have b7:=set2b (.slice none 0 0) (set2a (.slice none 0 0) b1)
   have k0:=cell_of_row _ (w.heap.size+1) 0 _ _ _ b7
   have k1:=cell_of_row _ (w.heap.size+1) 1 _ _ _ b7
   refine bodyPost_ret (v:=.tuple #[.agg #[.slice none 0 0,.slice none 0 0],.slice (some ⟨w.heap.size+2,0,none⟩) 0 0]) (by simp [results,Tryz.f26,go_sem,k0,k1]) rfl ?_
   have hg:w1.grownBy ((w1.setCell ⟨w.heap.size+1,0,none⟩ (.slice none 0 0)).setCell ⟨w.heap.size+1,1,none⟩ (.slice none 0 0)) (some (w.heap.size+1)):=W2_grown _ _ _ _
   exact ⟨_,_,[],_,rfl,by rw [HV.out];exact KO.zero _ _,by rw [HV.out];exact SO.mono (base:=w.heap.size+2) (World.ownsRow.kept own1 hg (.inr fun e=>by simp [Value.ownBlock] at e)) (by omega),by rw [HV.out];exact fun r e=>⟨by simp [Value.ownBlock],by simp [Value.ownBlock],fun k hk=>by simp [noK] at hk⟩,(hb0.trans (hb1.mono (by omega))).grown hg (by have:=hb1.size;omega) (fun k e=>by cases e;omega)⟩
end
section
def lowL (xs:List Int):Prop:=∀ k,k < xs.length→-1≤Z xs k
theorem low_nil:lowL []:=fun k hk=>by simp at hk
theorem low_mem {xs:List Int} (h2:∀ v ∈ xs,-1<=v):lowL xs:=fun k hk=>h2 _ (by rw [Z_get hk];exact List.getElem_mem _)
theorem low_ord {L:List (Int×Int)} {o:List Int} (h:ordOk L o=true):lowL o:=fun k hk=>by
 have p:=ordOk_parts h
 rcases unitOk_cases (unitsOk_at _ p.2.2.1 k hk) with e | ⟨q,e,hq,-,-⟩ <;> rw [e] <;> omega
theorem low_order (L:List (Int×Int)) (r:Int):lowL (orderR L r):=by
 cases h:byOk L r with
 | true=>exact low_ord (order_ok7 h)
 | false=>rw [orderR_no h];exact low_nil
theorem low_rounds {L:List (Int×Int)} (h:cOk L=true):lowL (roundR L):=by
 obtain ⟨T,hT,-⟩:=lastLeave_nat h
 rw [roundR,if_pos h,hT,Int.toNat_natCast]
 exact low_ord (rr_ok h hT)
theorem low_waits {L:List (Int×Int)} (h:cOk L=true):lowL (waits L):=by
 rw [waits,if_pos h]
 intro k hk
 rw [waitsTo_len] at hk
 have e:Z (waitsTo L L.length) k=waitAt L k:=by simp [Z,waitsTo,hk]
 have:=waitAt_bd h k hk
 rw [e];omega
theorem low_leaves {L:List (Int×Int)} (h:cOk L=true):lowL (leaves L):=by
 rw [leaves,if_pos h]
 intro k hk
 rw [leavesTo_len] at hk
 have e:Z (leavesTo L L.length) k=leaveAt L k:=by simp [Z,leavesTo,hk]
 have:=leaveAt_bd h hk
 rw [e];omega
theorem low_last {L:List (Int×Int)} (h:cOk L=true):lowL (lastR L):=by
 have ho:=order_ok7 (L:=L) (r:=1) (by simp [byOk,h])
 rw [lastR,timesR_yes ho]
 intro k hk
 rw [timeL_len] at hk
 have:=time_bd ho hk
 have hb:=cOk_bd h hk
 rw [timeL_Z hk];omega
theorem busyT_low (L:List (Int×Int)):∀ t,∀ c ∈ busyT L t,0<=c.1∧0<=c.2:=by
 intro t
 induction t with
 | zero=>intro c hc;simp [busyT] at hc
 | succ t ih =>
  intro c hc
  simp only [busyT] at hc
  split at hc
  ·exact ih c hc
  ·unfold busyNext at hc
   split at hc
   ·rename_i hlast
    rcases List.mem_or_eq_of_mem_set hc with hc | rfl
    ·exact ih c hc
    ·simp only [lastIs,decide_eq_true_eq] at hlast
     have hm:0<=(X (busyT L t) ((busyT L t).length - 1)):=by
      have hlt:(busyT L t).length - 1 < (busyT L t).length:=by omega
      have:=(ih _ (List.getElem_mem hlt)).1
      simpa [X,List.getD_eq_getElem?_getD,hlt] using this
     constructor <;> simp <;> omega
   ·rcases List.mem_append.1 hc with hc | hc
    ·exact ih c hc
    ·simp at hc;subst hc;constructor <;> simp <;> omega
theorem low_busy (L:List (Int×Int)):lowL (rowB L):=by
 refine low_mem (fun v hv=>?_)
 obtain ⟨r,hr,hv⟩:=List.mem_flatten.1 hv
 simp only [rows,List.mem_map] at hr
 obtain ⟨c,hc,rfl⟩:=hr
 have hbd:0<=c.1∧0<=c.2:=by
  unfold busyP at hc
  split at hc
  ·exact busyT_low L 200 c hc
  ·simp at hc
 simp at hv
 rcases hv with rfl | rfl <;> omega
theorem sum_low (L:List (Int×Int)) (o:List Int):-1<=sumV L o:=by
 unfold sumV
 split
 ·rename_i h
  have:=tmTo_bd h L.length (Nat.le_refl _)
  omega
 ·omega
theorem work_low (L:List (Int×Int)) (t:Int):-1<=workV L t:=by
 unfold workV
 split
 ·rename_i h
  simp only [momentOk,Bool.and_eq_true] at h
  have:=wk_bd h.1 t.toNat
  omega
 ·omega
theorem waitsum_low (L:List (Int×Int)) (c:Int):-1<=waitSumV L c:=by
 unfold waitSumV
 split
 ·rename_i h
  have hp:=besOk_parts h
  have:=waitS_bd hp.1 (c:=c.toNat) (by omega) L.length (Nat.le_refl _)
  omega
 ·omega
def txtN (x:Int):List UInt8:=if x < 0 then [46] else numL x.toNat
theorem join_snoc (sep z:List UInt8):∀ {l:List (List UInt8)},l≠[]->Lib.join (l++[z]) sep=Lib.join l sep++sep++z:=by
 intro l hl
 cases l with
 | nil=>exact absurd rfl hl
 | cons x r=>rw [List.cons_append,Lib.join_cons,Lib.join_cons];simp [Lib.joinTail]
theorem txts_take {xs:List Int} {k:Nat} (h:k < xs.length):(xs.take (k+1)).map txtN=(xs.take k).map txtN++[txtN (Z xs k)]:=by
 rw [Z_get h,<- List.take_append_getElem h,List.map_append];rfl
theorem row_join (xs:List Int):∀ k,k < xs.length->rowTo xs (k+1)=Lib.join ((xs.take (k+1)).map txtN) [44]:=by
 intro k
 induction k with
 | zero =>
  intro hk
  rw [txts_take hk,List.take_zero,List.map_nil,List.nil_append,Lib.join_one]
  simp [rowTo,txtN]
 | succ k ih =>
  intro hk
  have h0:(xs.take (k+1)).map txtN≠[]:=by
   have:((xs.take (k+1)).map txtN).length=k+1:=by rw [List.length_map,List.length_take];omega
   intro e;rw [e] at this;simp at this
  rw [txts_take hk,join_snoc _ _ h0,<- ih (by omega)]
  show rowTo xs (k+1)++(if 0 < k+1 then [44] else [])++(if Z xs (k+1) < 0 then [46] else numL (Z xs (k+1)).toNat)=_
  rw [if_pos (by omega)];rfl
theorem row_all {xs:List Int} (h:0 < xs.length):rowText xs=Lib.join (xs.map txtN) [44]:=by
 obtain ⟨n,hn⟩:∃ n,xs.length=n+1:=⟨xs.length - 1,by omega⟩
 have e:=row_join xs n (by omega)
 rw [<- hn,List.take_length] at e
 rw [rowText,if_neg (by omega),e]
theorem dig_no {v:List UInt8} (h:(32:UInt8) ∈ v):digOk v=false:=by
 cases e:digOk v with
 | false=>rfl
 | true =>
  have:=List.all_eq_true.1 (digOk_parts e).2.2 _ h
  simp [isD] at this
def NotWord (s:List UInt8):Prop:=s≠wMany∧s≠wWaits∧s≠wLeaves∧s≠wLast∧s≠wRounds∧s≠wBusy∧s≠wNeed∧s≠wLeast∧s≠wIdle
theorem ask_none {L:List (Int×Int)} {s:List UInt8} (h:NotWord s) (hn:(32:UInt8) ∉ s):askL L s=wWhat:=by
 obtain ⟨h1,h2,h3,h4,h5,h6,h7,h8,h9⟩:=h
 have hw:wordsOk (cutL 32 s)=false:=by rw [cutL_none hn];simp [wordsOk]
 rw [askL,if_neg h1,if_neg h2,if_neg h3,if_neg h4,if_neg h5,if_neg h6,if_neg h7,if_neg h8,if_neg h9,if_neg (by rw [hw];simp)]
theorem ask_two {L:List (Int×Int)} {s u v:List UInt8} (h:NotWord s) (hs:s=u++32::v) (hu:(32:UInt8) ∉ u):askL L s=if digOk v=true then askW L u (valN v:Int) else wWhat:=by
 obtain ⟨h1,h2,h3,h4,h5,h6,h7,h8,h9⟩:=h
 rw [askL,if_neg h1,if_neg h2,if_neg h3,if_neg h4,if_neg h5,if_neg h6,if_neg h7,if_neg h8,if_neg h9]
 have hc:cutL 32 s=u::cutL 32 v:=by rw [hs,cutL_at v hu]
 rw [hc]
 cases hd:digOk v with
 | true =>
  have hv:(32:UInt8) ∉ v:=fun e=>by rw [dig_no e] at hd;cases hd
  have hdl:digL v=(valN v:Int):=by rw [digL,if_pos hd]
  rw [cutL_none hv,if_pos (by simp [wordsOk,wordsOk.ZS2,hdl]),if_pos rfl]
  simp [hdl]
 | false =>
  rw [if_neg (show ¬ (false=true) by simp)]
  have hw:wordsOk (u::cutL 32 v)=false:=by
   by_cases hv:(32:UInt8) ∈ v
   ·rcases split_at 32 v with h | ⟨a,b,e,ha⟩
    ·exact absurd hv h
    ·have:(cutL 32 v).length≠1:=by
      have h0:0 < (cutL 32 b).length:=List.length_pos_iff.2 (show cutL 32 b≠[] by simp [cutL])
      rw [e,cutL_at b ha,List.length_cons];omega
     simp [wordsOk]
     omega
   ·rw [cutL_none hv]
    simp [wordsOk,wordsOk.ZS2,digL,hd]
  rw [if_neg (by rw [hw];simp)]
end
section
attribute [local go_sem ↓] Go.wp_at_zero Go.wp_at_succ
theorem c_withBehind (D:KV) (vn vp:Value) (a b:Int) (w:World) (hK:Ks w w.heap.size vn vp D) (hs:SmallK D) :
  Calls Tryz.prog 144 #[.agg #[vn,vp],.agg #[.int .i64 a,.int .i64 b]] w (MadeP D.now ⟨0,a,b⟩ w):=by
 obtain ⟨⟨An,cn,rfl,hcn,hN⟩,Ap,cp,rfl,-,-⟩:=hK
 have hs1:=hs.1
 have HM:=Lib.hid (made_0 D.now a b)
 have HC:=Lib.hid (fun (W:World) (hb:Below w.heap.size w W)=>c_cloneC D.now An cn W ((hN.below hb).more hb.size) (by omega))
 have hl:(D.now++[(a,b)]).length=D.now.length+1:=by simp
 have HKO:=Lib.hid (fun (g c2:Nat) (W:World) (hI:Cs W W.heap.size (some ⟨g,0,none⟩) (D.now++[(a,b)]))=>show Calls Tryz.prog 61 #[.slice (some ⟨g,0,none⟩) (D.now.length+1) c2] W fun e w'=>e=.returned (.bool (cOk (D.now++[(a,b)])))∧Below W.heap.size W w' from by
  have K:=c_iCustomersOk (D.now++[(a,b)]) (some ⟨g,0,none⟩) c2 W hI (by omega)
  rwa [hl] at K)
 obtain ⟨w0,hw0⟩:∃ w0,(w.alloc (.cells #[.slice An D.now.length cn,.slice Ap D.past.length cp] 31)).alloc (.cells #[.int .i64 a,.int .i64 b] 100)=w0:=⟨_,rfl⟩
 have hz0:w0.heap.size=w.heap.size+2:=by rw [<- hw0];simp
 have hb0:Below w.heap.size w w0:=by rw [<- hw0];exact ((Below.refl _ w).alloc (Nat.le_refl _) _).alloc (by simp) _
 have bD:w0.heap[w.heap.size]?=some (.cells #[.slice An D.now.length cn,.slice Ap D.past.length cp] 31 (0,0)):=by rw [<- hw0];exact (Below.heap_alloc _ _ _ (by simp)).trans (heap_alloc_new _ _)
 have bC:w0.heap[w.heap.size+1]?=some (.cells #[.int .i64 a,.int .i64 b] 100 (0,0)):=by rw [<- hw0];exact heap_newK _ _ _
 have HS:=Lib.hid (fun (W:World) (hb:Below w0.heap.size w0 W)=>show W.cell? ⟨w.heap.size,0,none⟩=some (.slice An D.now.length cn)∧W.cell? ⟨w.heap.size+1,0,none⟩=some (.int .i64 a)∧W.cell? ⟨w.heap.size+1,1,none⟩=some (.int .i64 b) from by
  have b1:=(hb.block w.heap.size (by omega)).trans bD
  have b2:=(hb.block (w.heap.size+1) (by omega)).trans bC
  exact ⟨cell_of_row _ w.heap.size 0 _ _ _ b1,cell_of_row _ (w.heap.size+1) 0 _ _ _ b2,cell_of_row _ (w.heap.size+1) 1 _ _ _ b2⟩)
 have hd0:Below w0.heap.size w0 w0.drew:=(Below.refl _ w0).drew
 have hd1:=hd0.alloc (Nat.le_refl _) (.cells #[.int .i64 a,.int .i64 b] 100)
 obtain ⟨c0,c1,c2⟩:=HS.out _ (Below.refl _ w0)
 have hb0':=Lib.hid (fun (W:World) (h:Below w0.heap.size w0 W)=>hb0.trans (h.mono (show w.heap.size<=w0.heap.size by omega)))
 have hle0:w.heap.size+2<=w0.heap.size:=by omega
 clear hN bD bC hz0
 go_enter Tryz.func144,Tryz.ntmps144
 go_wp2_with fail
 clear hw0
 go_region_held3 (fun W=>W.cell? ⟨w.heap.size,0,none⟩=some (.slice An D.now.length cn)∧W.cell? ⟨w.heap.size+1,0,none⟩=some (.int .i64 a)∧W.cell? ⟨w.heap.size+1,1,none⟩=some (.int .i64 b))
  (first
    | exact HS.out _ hx7
    | exact HS.out _ (hx6.alloc hx6.size _)
    | exact HS.out _ hx6
    | exact HS.out _ hd1
    | go_keep)
  (first
    | (go_at_call 104;refine (HC.out w0.drew (hb0'.out _ hd0)).mono ?_;rintro e w6 ⟨v6,rfl,o6,hb6⟩;obtain ⟨G6,c6,rfl,-,-⟩:=o6.formG;have hx6:Below w0.heap.size w0 w6:=hd0.trans hb6;have o6:CO w6 w0.heap.size (.slice G6 D.now.length c6) D.now:=o6)
    | (go_at_call 104;refine (HC.out _ (hb0'.out _ hd1)).mono ?_;rintro e w6 ⟨v6,rfl,o6,hb6⟩;obtain ⟨G6,c6,rfl,-,-⟩:=o6.formG;have bX:w6.heap[w0.heap.size]?=some (.cells #[.int .i64 a,.int .i64 b] 100 (0,0)):=(hb6.block w0.heap.size (by simp)).trans (heap_alloc_new w0.drew _);have hx6:Below w0.heap.size w0 w6:=hd1.trans (hb6.mono (by simp));have o6:CO w6 w0.heap.size (.slice G6 D.now.length c6) D.now:=o6.mono (by simp))
    | (refine step_C (by rfl) (.tmp 9) (.tmp 11) (by rfl) w0.heap.size (.slice G6 D.now.length c6) D.now a b w6.heap.size ?_ ?_ ?_ ?_ ?_ ?_ ?_;rfl;exact (o6.alloc _);rfl;exact (heap_alloc_new _ _);omega;(have:=hx6.size;simp;omega);intro g7 c7 w7 o7 hgr7 hb7;have hx7:Below w0.heap.size w0 w7:=(hx6.alloc hx6.size _).trans hb7)
    | (refine step_C (by rfl) (.tmp 9) (.tmp 11) (by rfl) w0.heap.size (.slice G6 D.now.length c6) D.now a b w0.heap.size ?_ ?_ ?_ ?_ ?_ ?_ ?_;rfl;exact o6;rfl;exact bX;omega;exact hx6.size;intro g7 c7 w7 o7 hgr7 hb7;have hx7:Below w0.heap.size w0 w7:=hx6.trans hb7)
    | fail)
 all_goals
  have hI:=o7.isOf.2
  have HK:=Lib.hid (HKO.out g7 c7 w7 hI)
  have HO7:=Lib.hid (o7.mono (show w.heap.size<=w0.heap.size by omega))
  have HB:=Lib.hid (hb0'.out _ hx7)
  clear hI o7 o6 hb6 hb7 hx7 hx6 hd0 hd1
  go_wp2_with fail
  refine HK.out.mono ?_
  rintro e w8 ⟨rfl,hb8⟩
  go_wp2_with fail
  go_ret2
  exact ⟨_,by rw [HM.out];rfl,fun _=>by rw [HM.out];exact HO7.out.below hb8 (Nat.le_refl _),HB.out.trans (hb8.mono HB.out.size)⟩
theorem c_withoutLast (D:KV) (vn vp:Value) (w:World) (hK:Ks w w.heap.size vn vp D) (hs:SmallK D) :
  Calls Tryz.prog 145 #[.agg #[vn,vp]] w (MadeP D.now ⟨1,0,0⟩ w):=by
 obtain ⟨⟨An,cn,rfl,hcn,hN⟩,Ap,cp,rfl,-,-⟩:=hK
 have hs1:=hs.1
 obtain ⟨w0,hw0,hz0,hb0,-,hS⟩:=one_box w (.slice An D.now.length cn) (.slice Ap D.past.length cp)
 obtain ⟨c0,c1⟩:=hS _ (Below.refl _ w0)
 clear hS hz0
 by_cases hp:0 < D.now.length
 ·have HM:=Lib.hid (made_go hp)
  have p1:((D.now.length:Int) == 0)=false:=beq_eq_false_iff_ne.2 (by omega)
  have ht:(D.now.take (D.now.length - 1)).length=D.now.length - 1:=by simp
  have HC:=Lib.hid (by have K:=c_cloneC (D.now.take (D.now.length - 1)) An cn w0 ((Cs_take (hN.below hb0) _).more hb0.size) (by rw [ht];omega);rw [ht] at K;exact K)
  have p2:(0:Int)<=(D.now.length:Int) - 1:=by omega
  have p3:((D.now.length:Int) - 1).toNat=D.now.length - 1:=by omega
  have p4:D.now.length - 1<=cn:=by omega
  go_enter Tryz.func145,Tryz.ntmps145
  go_wp2_with fail
  refine HC.out.mono ?_
  rintro e w1 ⟨v1,rfl,o1,hb1⟩
  go_wp2_with fail
  go_ret2
  exact ⟨_,by rw [HM.out];rfl,fun _=>by rw [HM.out];exact o1.mono hb0.size,hb0.trans (hb1.mono hb0.size)⟩
 ·have p1:D.now.length=0:=by omega
  have HM:=Lib.hid (show madeV D.now ⟨1,0,0⟩=(D.now,false) from made_no (by omega) (by omega) (by omega) (by omega))
  have p2:((D.now.length:Int) == 0)=true:=beq_iff_eq.2 (by omega)
  clear p1
  go_enter Tryz.func145,Tryz.ntmps145
  go_wp2_with fail
  go_ret2
  exact ⟨.slice none 0 0,by rw [HM.out];rfl,(fun h=>by rw [HM.out] at h;cases h),hb0⟩
theorem c_withLater (D:KV) (vn vp:Value) (a:Int) (w:World) (hK:Ks w w.heap.size vn vp D) (hs:SmallK D) :
  Calls Tryz.prog 147 #[.agg #[vn,vp],.int .i64 a] w (MadeP D.now ⟨3,a,0⟩ w):=by
 obtain ⟨⟨An,cn,rfl,hcn,hN⟩,Ap,cp,rfl,-,-⟩:=hK
 have hs1:=hs.1
 obtain ⟨w0,hw0,hz0,hb0,-,hS⟩:=one_box w (.slice An D.now.length cn) (.slice Ap D.past.length cp)
 obtain ⟨c0,c1⟩:=hS _ (Below.refl _ w0)
 clear hS hz0
 have HC:=Lib.hid (c_iLaterBy D.now An cn a w0 ((hN.below hb0).more hb0.size) (by omega))
 by_cases hp:0 < D.now.length
 ·have p1:((D.now.length:Int) == 0)=false:=beq_eq_false_iff_ne.2 (by omega)
  by_cases ha:a=0
  ·subst ha
   have HM:=Lib.hid (show madeV D.now ⟨3,0,0⟩=(D.now,false) from made_no (by omega) (by omega) (by omega) (by omega))
   go_enter Tryz.func147,Tryz.ntmps147
   go_wp2_with fail
   go_ret2
   exact ⟨.slice none 0 0,by rw [HM.out];rfl,(fun h=>by rw [HM.out] at h;cases h),hb0⟩
  ·have p2:(a == 0)=false:=beq_eq_false_iff_ne.2 ha
   have HM:=Lib.hid (show (madeV D.now ⟨3,a,0⟩).2=laterOk D.now a∧(laterOk D.now a=true->(madeV D.now ⟨3,a,0⟩).1=laterR D.now a) by
    by_cases h0:0 < a
    ·rw [made_3 h0 hp];exact ⟨rfl,fun _=>rfl⟩
    ·have e:laterOk D.now a=false:=by
      cases e:laterOk D.now a with
      | false=>rfl
      | true=>have:=(laterOk_parts e).2.1;omega
     rw [made_no (by omega) (by omega) (by omega) (by omega),e]
     exact ⟨rfl,fun h=>by cases h⟩)
   go_enter Tryz.func147,Tryz.ntmps147
   go_wp2_with fail
   refine HC.out.mono ?_
   rintro e w1 ⟨v1,rfl,o1,hb1⟩
   rw [laterV]
   go_wp2_with fail
   go_ret2
   exact ⟨_,by rw [HM.out.1];rfl,fun h=>by rw [HM.out.2 (by rw [<- HM.out.1];exact h)];exact o1.mono hb0.size,hb0.trans (hb1.mono hb0.size)⟩
 ·have p1:D.now.length=0:=by omega
  have HM:=Lib.hid (show madeV D.now ⟨3,a,0⟩=(D.now,false) from made_no (by omega) (by omega) (by omega) (by omega))
  have p2:((D.now.length:Int) == 0)=true:=beq_iff_eq.2 (by omega)
  clear p1
  go_enter Tryz.func147,Tryz.ntmps147
  go_wp2_with fail
  go_ret2
  exact ⟨.slice none 0 0,by rw [HM.out];rfl,(fun h=>by rw [HM.out] at h;cases h),hb0⟩
theorem c_changedBy (D:KV) (vn vp:Value) (k a b:Int) (w:World) (hK:Ks w w.heap.size vn vp D) (hs:SmallK D) (hf:formOk k a b=true) (h4:k≠4) :
  Calls Tryz.prog 110 #[.agg #[vn,vp],.agg #[.int .i64 k,.int .i64 a,.int .i64 b]] w (MadeP D.now ⟨k,a,b⟩ w):=by
 have hcs:k=0∨(k=1∧a=0∧b=0)∨(k=2∧b=0)∨(k=3∧b=0):=by
  simp only [formOk,Bool.or_eq_true,Bool.and_eq_true,decide_eq_true_eq] at hf
  omega
 clear hf h4
 have hbx:∀ x:Int,Below w.heap.size w ((w.alloc (.cells #[vn,vp] 31)).alloc (.cells #[.int .i64 x,.int .i64 a,.int .i64 b] 39)):=fun x=>((Below.refl _ w).alloc (Nat.le_refl _) _).alloc (by simp) _
 rcases hcs with rfl | ⟨rfl,rfl,rfl⟩ | ⟨rfl,rfl⟩ | ⟨rfl,rfl⟩
 ·have HC:=Lib.hid (fun (W:World) (hb:Below w.heap.size w W)=>c_withBehind D vn vp a b W ((hK.below hb).more hb.size) hs)
  clear hK hs
  go_enter Tryz.func110,Tryz.ntmps110
  go_wp2_with fail
  refine (HC.out _ (hbx _)).mono ?_
  rintro e w1 ⟨v1,rfl,o1,hb1⟩
  go_wp2_with fail
  go_ret2
  have hy:=hbx 0
  exact ⟨_,rfl,fun h=>(o1 h).mono hy.size,hy.trans (hb1.mono hy.size)⟩
 ·have HC:=Lib.hid (fun (W:World) (hb:Below w.heap.size w W)=>c_withoutLast D vn vp W ((hK.below hb).more hb.size) hs)
  clear hK hs
  go_enter Tryz.func110,Tryz.ntmps110
  go_wp2_with fail
  refine (HC.out _ (hbx _)).mono ?_
  rintro e w1 ⟨v1,rfl,o1,hb1⟩
  go_wp2_with fail
  go_ret2
  have hy:=hbx 1
  exact ⟨_,rfl,fun h=>(o1 h).mono hy.size,hy.trans (hb1.mono hy.size)⟩
 ·obtain ⟨⟨An,cn,rfl,hcn,hN⟩,-⟩:=hK
  have hs1:=hs.1
  have HC:=Lib.hid (fun (W:World) (hb:Below w.heap.size w W)=>c_iNeedingMore D.now An cn a W ((hN.below hb).more hb.size) (by omega))
  have HM:=Lib.hid (made_2 D.now a)
  clear hN hs
  go_enter Tryz.func110,Tryz.ntmps110
  go_wp2_with fail
  refine (HC.out _ (hbx _)).mono ?_
  rintro e w1 ⟨v1,rfl,o1,hb1⟩
  rw [laterV]
  go_wp2_with fail
  go_ret2
  have hy:=hbx 2
  exact ⟨_,by rw [HM.out];rfl,fun _=>by rw [HM.out];exact o1.mono hy.size,hy.trans (hb1.mono hy.size)⟩
 ·have HC:=Lib.hid (fun (W:World) (hb:Below w.heap.size w W)=>c_withLater D vn vp a W ((hK.below hb).more hb.size) hs)
  clear hK hs
  go_enter Tryz.func110,Tryz.ntmps110
  go_wp2_with fail
  refine (HC.out _ (hbx _)).mono ?_
  rintro e w1 ⟨v1,rfl,o1,hb1⟩
  go_wp2_with fail
  go_ret2
  have hy:=hbx 3
  exact ⟨_,rfl,fun h=>(o1 h).mono hy.size,hy.trans (hb1.mono hy.size)⟩
theorem run_maxA (a b:Int) (t:Array TypeId) (ty:TypeId) (w:World):(Builtin.max_ t ty #[.int .i64 a,.int .i64 b]).run Tryz.prog w=.ok (.int .i64 (max a b)) w:=by
 by_cases h:b > a
 ·rw [show max a b=b by omega];simp [Builtin.max_,Builtin.max2,h]
 ·rw [show max a b=a by omega];simp [Builtin.max_,Builtin.max2,h]
theorem css_all {w:World} {base g c:Nat} {hs:List Value} {Ls:List (List (Int×Int))} {n:Nat} (h:HdO w base (.slice (some ⟨g,0,none⟩) n c) hs) (hr:RdH w w.heap.size hs Ls):n=Ls.length∧Ls.length<=c∧Css w w.heap.size (some ⟨g,0,none⟩) Ls:=by
 obtain ⟨A,c',e,h1,h2,-⟩:=h.css hr
 injection e with e1 e2 e3
 subst e1 e2 e3
 exact ⟨rfl,h1,h2⟩
attribute [local go_sem ↓] run_maxA
theorem c_with (D:KV) (vn vp nv:Value) (w:World) (hK:Ks w w.heap.size vn vp D) (hs:SmallK D) (h8:D.past.length<=8) (hnv:∃ A n c,nv=.slice A n c) :
  Calls Tryz.prog 111 #[.agg #[vn,vp],nv] w fun e w'=>∃ up us,e=.returned (.agg #[nv,up])∧COO w' (w.heap.size+2) up (pushP D.past D.now) us∧Below w.heap.size w w':=by
 obtain ⟨⟨An,cn,rfl,hcn,hN⟩,Ap,cp,rfl,hcp,hP⟩:=hK
 obtain ⟨hs1,hs2,hs3⟩:=hs
 obtain ⟨A,nn,nc,rfl⟩:=hnv
 have hl:(D.past++[D.now]).length=D.past.length+1:=by simp
 have hl3:∀ k,k < (D.past++[D.now]).length->(LL (D.past++[D.now]) k).length<=100000000:=fun k hk=>by
  rw [hl] at hk
  rw [LL_app _ hk]
  split
  ·omega
  ·have:=hs3 k (by omega);omega
 obtain ⟨w0,hw0,hz0,hb0,bR,hS⟩:=two_boxes w (.slice An D.now.length cn) (.slice Ap D.past.length cp)
 have hle0:w.heap.size+2<=w0.heap.size:=by omega
 have HC:=Lib.hid (fun (W:World) (hb:Below w.heap.size w W)=>c_cloneCC D.past Ap cp w.heap.size W hb.size (hP.below hb) (by omega))
 have HS:=Lib.hid (fun (W:World) (hb:Below w0.heap.size w0 W)=>hS W (hb.mono (by omega)))
 have HB0:=Lib.hid (fun (W:World) (h:Below w0.heap.size w0 W)=>hb0.trans (h.mono (show w.heap.size<=w0.heap.size by omega)))
 have HN:=Lib.hid hN
 have HP2:=Lib.hid (fun (g c2:Nat) (W:World) (hI:Css W W.heap.size (some ⟨g,0,none⟩) (D.past++[D.now]))=>show Calls Tryz.prog 105 #[.slice (some ⟨g,0,none⟩) (D.past.length+1) c2] W fun e w'=>∃ v vs,e=.returned v∧COO w' W.heap.size v (D.past++[D.now]) vs∧Below W.heap.size W w' from by
  have K:=c_copiesOf (D.past++[D.now]) (some ⟨g,0,none⟩) c2 W hI (by omega) hl3
  rwa [hl] at K)
 have HP3:=Lib.hid (fun (g c2:Nat) (W:World) (hI:Css W W.heap.size (some ⟨g,0,none⟩) (D.past++[D.now]))=>show Calls Tryz.prog 105 #[.slice (some ⟨g,1,none⟩) D.past.length (c2 - 1)] W fun e w'=>∃ v vs,e=.returned v∧COO w' W.heap.size v ((D.past++[D.now]).drop 1) vs∧Below W.heap.size W w' from by
  have hd:((D.past++[D.now]).drop 1).length=D.past.length:=by rw [List.length_drop,hl];omega
  have K:=c_copiesOf ((D.past++[D.now]).drop 1) (some ⟨g,0+1,none⟩) (c2 - 1) W (hI.drop 1) (by omega) (fun k hk=>by
   have e:LL ((D.past++[D.now]).drop 1) k=LL (D.past++[D.now]) (1+k):=by simp [LL,List.getD_eq_getElem?_getD,Nat.add_comm]
   rw [e];exact hl3 (1+k) (by rw [hd] at hk;omega))
  rwa [hd] at K)
 have hd0:Below w0.heap.size w0 w0.drew:=(Below.refl _ w0).drew
 have hd1:=hd0.alloc (Nat.le_refl _) (.cells #[.slice An D.now.length cn] 28)
 obtain ⟨c0,c1⟩:=HS.out _ (Below.refl _ w0)
 clear hN hP hs3 hl3 hS hz0
 go_enter Tryz.func111,Tryz.ntmps111
 go_wp2_with fail
 clear hw0
 go_region_held3 (fun W=>W.cell? ⟨w.heap.size,0,none⟩=some (.slice An D.now.length cn)∧W.cell? ⟨w.heap.size,1,none⟩=some (.slice Ap D.past.length cp))
  (first
    | exact HS.out _ hx7
    | exact HS.out _ (hx6.alloc hx6.size _)
    | exact HS.out _ hx6
    | exact HS.out _ hd1
    | go_keep)
  (first
    | (go_at_call 148;refine (HC.out w0.drew (HB0.out _ hd0)).mono ?_;rintro e w6 ⟨v6,hs6,rfl,o6,hr6,hb6⟩;have hq6:=hr6.1;have HR6:RdH w6 w.heap.size hs6 D.past:=hr6.below (hb6.mono (by show w.heap.size<=w0.heap.size;omega));obtain ⟨G6,c6,rfl,-,-,-⟩:=o6.form;rw [hq6] at o6 ⊢;have hx6:Below w0.heap.size w0 w6:=hd0.trans hb6;have o6:HdO w6 w0.heap.size (.slice G6 D.past.length c6) hs6:=o6)
    | (go_at_call 148;refine (HC.out _ (HB0.out _ hd1)).mono ?_;rintro e w6 ⟨v6,hs6,rfl,o6,hr6,hb6⟩;have hq6:=hr6.1;have HR6:RdH w6 w.heap.size hs6 D.past:=hr6.below (hb6.mono (by simp;omega));have bX:w6.heap[w0.heap.size]?=some (.cells #[.slice An D.now.length cn] 28 (0,0)):=(hb6.block w0.heap.size (by simp)).trans (heap_alloc_new w0.drew _);obtain ⟨G6,c6,rfl,-,-,-⟩:=o6.form;rw [hq6] at o6 ⊢;have hx6:Below w0.heap.size w0 w6:=hd1.trans (hb6.mono (by simp));have o6:HdO w6 w0.heap.size (.slice G6 D.past.length c6) hs6:=o6.mono (by simp))
    | (refine step_H1 (by rfl) (.tmp 9) (.tmp 12) (by rfl) w0.heap.size (.slice G6 D.past.length c6) hs6 (.slice An D.now.length cn) w6.heap.size (D.past.length+1) ?_ ?_ ?_ ?_ ?_ ?_ ?_ ?_ ?_;rfl;exact (o6.alloc _);rfl;rfl;exact (heap_alloc_new _ _);omega;omega;(have:=hx6.size;simp;omega);intro g7 c7 w7 o7 hgr7 hb7;have h67:Below w0.heap.size w6 w7:=((Below.refl _ w6).alloc hx6.size _).trans hb7;have hx7:Below w0.heap.size w0 w7:=(hx6.alloc hx6.size _).trans hb7)
    | (refine step_H1 (by rfl) (.tmp 9) (.tmp 12) (by rfl) w0.heap.size (.slice G6 D.past.length c6) hs6 (.slice An D.now.length cn) w0.heap.size (D.past.length+1) ?_ ?_ ?_ ?_ ?_ ?_ ?_ ?_ ?_;rfl;exact o6;rfl;rfl;exact bX;omega;omega;exact hx6.size;intro g7 c7 w7 o7 hgr7 hb7;have h67:Below w0.heap.size w6 w7:=hb7;have hx7:Below w0.heap.size w0 w7:=hx6.trans hb7)
    | fail)
 all_goals
  have hw7:=HB0.out _ hx7
  obtain ⟨-,hc7,hI⟩:=css_all o7 (((HR6.below (h67.mono (by omega))).snoc hcn (HN.out.below hw7)).more hw7.size)
  rw [hl] at hc7
  have HI2:=Lib.hid (HP2.out g7 c7 w7 hI)
  have HI3:=Lib.hid (HP3.out g7 c7 w7 hI)
  have b7:=Lib.hid ((hx7.block (w.heap.size+1) (by omega)).trans bR)
  have HW:=Lib.hid hw7
  have HX:=Lib.hid (show w0.heap.size<=w7.heap.size from hx7.size)
  clear hI o7 o6 hb6 hb7 hx7 hx6 hd0 hd1 h67 HR6 hr6 hw7 c0 c1
  have q0:IntKind.i64.wrap ((D.past.length:Int)+1 - 8)=(D.past.length:Int)+1 - 8:=IntWalk.i64_in _ (by omega)
  by_cases hq:D.past.length+1<=8
  ·have q1:max (0:Int) ((D.past.length:Int)+1 - 8)=0:=by omega
   have HPu:=Lib.hid (pushP_no (P:=D.past) (L:=D.now) (by omega))
   go_wp2_with fail
   refine HI2.out.mono ?_
   rintro e w8 ⟨up,us,rfl,o8,hb8⟩
   obtain ⟨Gp,gp,rfl,-,-,-⟩:=o8.form
   rw [hl] at o8 ⊢
   have hX:=HX.out
   have b8:=(hb8.block (w.heap.size+1) (by omega)).trans b7.out
   have r0:=cell_of_row _ (w.heap.size+1) 0 _ _ _ b8
   have r1:=cell_of_row _ (w.heap.size+1) 1 _ _ _ b8
   have f0:w8.frozen? ⟨w.heap.size+1,0,none⟩=false:=unfrozen_of b8
   have f1:w8.frozen? ⟨w.heap.size+1,1,none⟩=false:=unfrozen_of b8
   go_wp2_with fail
   obtain ⟨k0,k1⟩:=put2 (.slice A nn nc) (.slice Gp (D.past.length+1) gp) b8
   refine bodyPost_ret (v:=.agg #[.slice A nn nc,.slice Gp (D.past.length+1) gp]) (by simp [results,Tryz.f111,go_sem,k0,k1]) rfl ?_
   refine ⟨_,us,rfl,?_,((HW.out.trans (hb8.mono (by omega))).setCell (p:=⟨w.heap.size+1,0,none⟩) (by simp) _).setCell (p:=⟨w.heap.size+1,1,none⟩) (by simp) _⟩
   rw [HPu.out]
   exact ((o8.mono (show w.heap.size+2<=w7.heap.size by omega)).keptLow (grown_set1 w8 (w.heap.size+1) 0 _) (by omega)).keptLow (grown_set1 _ (w.heap.size+1) 1 _) (by omega)
  ·have q1:max (0:Int) ((D.past.length:Int)+1 - 8)=1:=by omega
   have q2:1 < c7:=by omega
   have q3:¬ c7=1:=by omega
   have HPu:=Lib.hid (pushP_cut (P:=D.past) (L:=D.now) (by omega))
   go_wp2_with fail
   refine HI3.out.mono ?_
   rintro e w8 ⟨up,us,rfl,o8,hb8⟩
   obtain ⟨Gp,gp,rfl,-,-,-⟩:=o8.form
   rw [show ((D.past++[D.now]).drop 1).length=D.past.length by rw [List.length_drop,hl];omega] at o8 ⊢
   have hX:=HX.out
   have b8:=(hb8.block (w.heap.size+1) (by omega)).trans b7.out
   have r0:=cell_of_row _ (w.heap.size+1) 0 _ _ _ b8
   have r1:=cell_of_row _ (w.heap.size+1) 1 _ _ _ b8
   have f0:w8.frozen? ⟨w.heap.size+1,0,none⟩=false:=unfrozen_of b8
   have f1:w8.frozen? ⟨w.heap.size+1,1,none⟩=false:=unfrozen_of b8
   go_wp2_with fail
   obtain ⟨k0,k1⟩:=put2 (.slice A nn nc) (.slice Gp D.past.length gp) b8
   refine bodyPost_ret (v:=.agg #[.slice A nn nc,.slice Gp D.past.length gp]) (by simp [results,Tryz.f111,go_sem,k0,k1]) rfl ?_
   refine ⟨_,us,rfl,?_,((HW.out.trans (hb8.mono (by omega))).setCell (p:=⟨w.heap.size+1,0,none⟩) (by simp) _).setCell (p:=⟨w.heap.size+1,1,none⟩) (by simp) _⟩
   rw [HPu.out]
   exact ((o8.mono (show w.heap.size+2<=w7.heap.size by omega)).keptLow (grown_set1 w8 (w.heap.size+1) 0 _) (by omega)).keptLow (grown_set1 _ (w.heap.size+1) 1 _) (by omega)
end
end Go.Proofs.YthpccmkagikhjaaGreatDoor

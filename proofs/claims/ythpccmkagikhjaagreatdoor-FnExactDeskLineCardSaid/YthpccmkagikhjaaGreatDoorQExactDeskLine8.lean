import Derived.Test.YthpccmkagikhjaaGreatDoorQExactDeskLine4
import Derived.Test.YthpccmkagikhjaaGreatDoorQExactDeskLine7
namespace Go.Proofs.YthpccmkagikhjaaGreatDoor
set_option linter.unusedVariables false
open Go.RowKit
set_option maxRecDepth 8000
set_option maxHeartbeats 8000000
section
attribute [local go_sem ↓] Go.wp_at_zero Go.wp_at_succ
theorem box_two (w:World) (x y:Value) (t:TypeId):∃ w',w.alloc (.cells #[x,y] t)=w'∧w'.heap.size=w.heap.size+1∧Below w.heap.size w w'∧∀ W,Below w'.heap.size w' W->(W.cell? ⟨w.heap.size,0,none⟩=some x∧W.cell? ⟨w.heap.size,1,none⟩=some y):=by
 refine ⟨_,rfl,by simp,(Below.refl _ w).alloc (Nat.le_refl _) _,fun W hb=>?_⟩
 have h:=(hb.block w.heap.size (by simp)).trans (heap_alloc_new w (.cells #[x,y] t))
 exact ⟨cell_of_row _ _ 0 _ _ _ h,cell_of_row _ _ 1 _ _ _ h⟩
def allK (D:KV):Nat:=D.now.length+totL D.past D.past.length
theorem c_szDesk (D:KV) (vn vp:Value) (w:World) (hK:Ks w w.heap.size vn vp D) (h1:D.now.length<=9223372036854775807) (h2:D.past.length<=9223372036854775807) (h3:∀ k,k < D.past.length->(LL D.past k).length<=9223372036854775807) :
  Calls Tryz.prog 28 #[.agg #[vn,vp],.int .i64 1048576] w fun e w'=>∃ r:Int,e=.returned (.int .i64 r)∧Below w.heap.size w w'∧-1<=r∧r<=1048576∧(0<=r->r+(D.past.length:Int)+(allK D:Int)=1048576):=by
 obtain ⟨⟨An,cn,rfl,hcn,hN⟩,Ap,cp,rfl,hcp,hP⟩:=hK
 obtain ⟨w0,hw0,hz0,hb0,HC⟩:=box_two w (.slice An D.now.length cn) (.slice Ap D.past.length cp) 56
 obtain ⟨q0,q1⟩:=HC _ (Below.refl _ w0)
 have HS:=Lib.hid (c_szC An D.now.length cn 1048576 w0 (by omega) (by omega) h1)
 have HSS:=Lib.hid (fun (l:Int) (h0:0<=l) (hl:l<=1048576)=>c_szCC D.past Ap cp w0.heap.size l w0 ((hP.below hb0).more (by omega)) h0 hl h2 h3)
 clear HC hN hP
 go_enter Tryz.func28,Tryz.ntmps28
 go_wp2_with fail
 clear hw0
 refine HS.out.mono ?_
 rintro e w1 ⟨r,rfl,rfl,hr⟩
 rcases hr with ⟨rfl,hr⟩ | ⟨rfl,hr⟩
 ·go_wp2_with fail
  go_ret
  exact ⟨-1,rfl,hb0,by omega,by omega,fun h=>by omega⟩
 ·have d1:decide ((1048576:Int) - (D.now.length:Int) < 0)=false:=decide_eq_false (by omega)
  have HSS:=Lib.hid (HSS.out (1048576 - (D.now.length:Int)) (by omega) (by omega))
  go_wp2_with fail
  refine HSS.out.mono ?_
  rintro e w2 ⟨r2,rfl,rfl,hr1,hr2,hr3⟩
  by_cases hn:r2 < 0
  ·have d2:decide (r2 < 0)=true:=decide_eq_true hn
   go_wp2_with fail
   go_ret
   exact ⟨-1,rfl,hb0,by omega,by omega,fun h=>by omega⟩
  ·have d2:decide (r2 < 0)=false:=decide_eq_false hn
   have hr4:=hr3 (by omega)
   have HR:=Lib.hid hr4
   clear hr3 hr4
   go_wp2_with fail
   go_ret
   exact ⟨r2,rfl,hb0,by omega,by omega,fun _=>by have:=HR.out;simp only [allK];omega⟩
theorem c_eqDesk (D:KV) (vn vp un up:Value) (w:World) (hK:Ks w w.heap.size vn vp D) (hE:Ks w w.heap.size un up D) (h1:D.now.length<=1048576) (h2:D.past.length<=1048576) (h3:∀ k,k < D.past.length->(LL D.past k).length<=1048576) :
  Calls Tryz.prog 30 #[.agg #[vn,vp],.agg #[un,up]] w fun e w'=>e=.returned (.bool true)∧Below w.heap.size w w':=by
 obtain ⟨⟨An,cn,rfl,hcn,hN⟩,Ap,cp,rfl,hcp,hP⟩:=hK
 obtain ⟨⟨Bn,dn,rfl,hdn,hM⟩,Bp,dp,rfl,hdp,hQ⟩:=hE
 obtain ⟨w0,hw0,hz0,hb0,HC0⟩:=box_two w (.slice An D.now.length cn) (.slice Ap D.past.length cp) 31
 obtain ⟨w1,hw1,hz1,hb1,HC1⟩:=box_two w0 (.slice Bn D.now.length dn) (.slice Bp D.past.length dp) 31
 rw [hz0] at HC1
 have hx1:=hb0.trans (hb1.mono (by omega))
 have HE:=Lib.hid (c_eqCustomerS D.now An Bn cn dn w1 ((hN.below hx1).more hx1.size) ((hM.below hx1).more hx1.size) h1)
 have HEE:=Lib.hid (fun W (hb:Below w1.heap.size w1 W)=>c_eqCC D.past Ap Bp cp dp W ((hP.below (hx1.trans (hb.mono hx1.size))).more (hx1.trans (hb.mono hx1.size)).size) ((hQ.below (hx1.trans (hb.mono hx1.size))).more (hx1.trans (hb.mono hx1.size)).size) h2 h3)
 obtain ⟨q0,q1⟩:=HC0 _ hb1
 obtain ⟨q2,q3⟩:=HC1 _ (Below.refl _ w1)
 have HC0:=Lib.hid (fun W (hb:Below w1.heap.size w1 W)=>HC0 W (hb1.trans (hb.mono hb1.size)))
 have HC1:=Lib.hid HC1
 clear hN hP hM hQ
 go_enter Tryz.func30,Tryz.ntmps30
 go_wp2_with fail
 clear hw1 hw0
 refine HE.out.mono ?_
 rintro e w2 ⟨rfl,hb2⟩
 clear q0 q1 q2 q3
 obtain ⟨q0,q1⟩:=HC0.out _ hb2
 obtain ⟨q2,q3⟩:=HC1.out _ hb2
 go_wp2_with fail
 refine (HEE.out _ hb2).mono ?_
 rintro e w3 ⟨rfl,hb3⟩
 go_wp2_with fail
 go_ret
 exact ⟨rfl,hx1.trans ((hb2.trans (hb3.mono hb2.size)).mono hx1.size)⟩
theorem c_toDesk (D:KV) (vn vp:Value) (w:World) (hK:Ks w w.heap.size vn vp D) (h1:D.now.length<=1048576) (h2:D.past.length<=1048576) (h3:∀ k,k < D.past.length->(LL D.past k).length<=1048576) :
  Calls Tryz.prog 29 #[.agg #[vn,vp]] w fun e w'=>∃ un up us,e=.returned (.agg #[un,up])∧KO w' w.heap.size un up D us∧Below w.heap.size w w':=by
 obtain ⟨⟨An,cn,rfl,hcn,hN⟩,Ap,cp,rfl,hcp,hP⟩:=hK
 obtain ⟨w0,hw0⟩:∃ w0,((w.alloc (.cells #[.slice An D.now.length cn,.slice Ap D.past.length cp] 56)).alloc (.cells #[.slice none 0 0,.slice none 0 0] 31)).alloc (.cells #[.slice none 0 0,.slice none 0 0] 31)=w0:=⟨_,rfl⟩
 have hz0:w0.heap.size=w.heap.size+3:=by rw [<- hw0];simp
 have hb0:Below w.heap.size w w0:=by rw [<- hw0];exact (((Below.refl _ w).alloc (Nat.le_refl _) _).alloc (by simp) _).alloc (by simp;omega) _
 have bA:w0.heap[w.heap.size]?=some (.cells #[.slice An D.now.length cn,.slice Ap D.past.length cp] 56 (0,0)):=by rw [<- hw0];exact (Below.heap_alloc _ _ _ (by simp;omega)).trans ((Below.heap_alloc _ _ _ (by simp)).trans (heap_alloc_new _ _))
 have bR:w0.heap[w.heap.size+1]?=some (.cells #[.slice none 0 0,.slice none 0 0] 31 (0,0)):=by rw [<- hw0];exact (Below.heap_alloc _ _ _ (by simp)).trans (heap_newK _ _ _)
 have bO:w0.heap[w.heap.size+2]?=some (.cells #[.slice none 0 0,.slice none 0 0] 31 (0,0)):=by
  rw [<- hw0]
  have:=heap_alloc_new ((w.alloc (.cells #[.slice An D.now.length cn,.slice Ap D.past.length cp] 56)).alloc (.cells #[.slice none 0 0,.slice none 0 0] 31)) (.cells #[.slice none 0 0,.slice none 0 0] 31)
  simpa using this
 have HT:=Lib.hid (c_toCustomerS D.now An cn w0 ((hN.below hb0).more (by omega)) h1)
 obtain ⟨q0,q1,-,-⟩:=(show w0.cell? ⟨w.heap.size,0,none⟩=some (.slice An D.now.length cn)∧w0.cell? ⟨w.heap.size,1,none⟩=some (.slice Ap D.past.length cp)∧True∧True from ⟨cell_of_row _ _ 0 _ _ _ bA,cell_of_row _ _ 1 _ _ _ bA,trivial,trivial⟩)
 have HP:=Lib.hid hP
 clear hN hP
 go_enter Tryz.func29,Tryz.ntmps29
 go_wp2_with fail
 clear hw0
 refine HT.out.mono ?_
 rintro e w1 ⟨v1,rfl,o1,hb1⟩
 have hs1:=hb1.size
 have b1:=(hb1.block _ (show w.heap.size+2 < w0.heap.size by omega)).trans bO
 have a1:=(hb1.block _ (show w.heap.size < w0.heap.size by omega)).trans bA
 have r1:=(hb1.block _ (show w.heap.size+1 < w0.heap.size by omega)).trans bR
 have hx1:=hb0.trans (hb1.mono (by omega))
 obtain ⟨N1,n1,rfl,-,-,-⟩:=o1.form
 obtain ⟨w2,hw2⟩:∃ z,w1.setCell ⟨w.heap.size+2,0,none⟩ (.slice N1 D.now.length n1)=z:=⟨_,rfl⟩
 have hg2:w1.grownBy w2 (some (w.heap.size+2)):=by rw [<- hw2];exact grown_set1 _ _ _ _
 have b2:w2.heap[w.heap.size+2]?=some (.cells #[.slice N1 D.now.length n1,.slice none 0 0] 31 (0,0)):=by rw [<- hw2];exact set2a _ b1
 have a2:=(hg2.block w.heap.size (by omega) (by simp)).trans a1
 have r2:=(hg2.block (w.heap.size+1) (by omega) (by simp)).trans r1
 have o2:=o1.grownR' hg2 (fun r hr e=>by cases e;have:=owns_base o1 _ hr;omega)
 have hx2:=hx1.grown hg2 (by omega) (fun k e=>by cases e;omega)
 have hz2:=hg2.size
 obtain ⟨x0,x1,x2,x3⟩:=two_at b1
 have HTT:=Lib.hid (c_toCC D.past Ap cp w2 ((HP.out.below hx2).more hx2.size) h2 h3)
 have p0:=cell_of_row _ w.heap.size 1 _ _ _ a2
 clear bA bR bO a1 b1 r1 hb0 hb1 hx1 o1 q0 q1
 go_wp2_with fail
 clear hw2 x0 x1 x2 x3
 refine HTT.out.mono ?_
 rintro e w3 ⟨v3,vs,rfl,o3,hb3⟩
 have hs3:=hb3.size
 obtain ⟨P1,p1,rfl,-,-,-⟩:=o3.form
 have hown3:=owns_lt o2
 have b3:=(hb3.block _ (show w.heap.size+2 < w2.heap.size by omega)).trans b2
 have r3:=(hb3.block _ (show w.heap.size+1 < w2.heap.size by omega)).trans r2
 have o2':=o2.below hb3 (Nat.le_refl _)
 obtain ⟨w4,hw4⟩:∃ z,w3.setCell ⟨w.heap.size+2,1,none⟩ (.slice P1 D.past.length p1)=z:=⟨_,rfl⟩
 have hg4:w3.grownBy w4 (some (w.heap.size+2)):=by rw [<- hw4];exact grown_set1 _ _ _ _
 have b4:w4.heap[w.heap.size+2]?=some (.cells #[.slice N1 D.now.length n1,.slice P1 D.past.length p1] 31 (0,0)):=by rw [<- hw4];exact set2b _ b3
 have r4:=(hg4.block (w.heap.size+1) (by omega) (by simp)).trans r3
 have ko3:KO w3 w0.heap.size (.slice N1 D.now.length n1) (.slice P1 D.past.length p1) D vs:=⟨o2',PL.ofCOO (o3.mono (by omega)),fun r hr e=>by
  have h1:=hown3 r hr
  have h2:=owns_base o3.row r e
  omega,fun k hk r hr e=>by
  have h1:=hown3 r e
  have h2:=owns_base (o3.inner k hk) r hr
  omega⟩
 have ko4:=ko3.keptLow hg4 (show w.heap.size+2 < w0.heap.size by omega)
 have hx4:=(hx2.trans (hb3.mono (by omega))).grown hg4 (by omega) (fun k e=>by cases e;omega)
 have hz4:=hg4.size
 obtain ⟨x0,x1,x2,x3⟩:=two_at b3
 obtain ⟨y0,y1,y2,y3⟩:=two_at b4
 obtain ⟨u0,u1,u2,u3⟩:=two_at r4
 obtain ⟨w5,hw5⟩:∃ z,w4.setCell ⟨w.heap.size+1,0,none⟩ (.slice N1 D.now.length n1)=z:=⟨_,rfl⟩
 obtain ⟨w6,hw6⟩:∃ z,w5.setCell ⟨w.heap.size+1,1,none⟩ (.slice P1 D.past.length p1)=z:=⟨_,rfl⟩
 have r5:w5.heap[w.heap.size+1]?=some (.cells #[.slice N1 D.now.length n1,.slice none 0 0] 31 (0,0)):=by rw [<- hw5];exact set2a _ r4
 have r6:w6.heap[w.heap.size+1]?=some (.cells #[.slice N1 D.now.length n1,.slice P1 D.past.length p1] 31 (0,0)):=by rw [<- hw6];exact set2b _ r5
 obtain ⟨-,u4,-,u5⟩:=two_at r5
 have hg6:w4.grownBy w6 (some (w.heap.size+1)):=by rw [<- hw6,<- hw5];exact W2_grown _ _ _ _
 have HKO:=Lib.hid ((ko4.keptLow hg6 (show w.heap.size+1 < w0.heap.size by omega)).mono (show w.heap.size<=w0.heap.size by omega))
 have HX:=Lib.hid (hx4.grown hg6 (by omega) (fun k e=>by cases e;omega))
 have HR:=Lib.hid r6
 clear b2 b3 b4 r2 r3 r4 r5 r6 ko3 ko4 hx2 hx4 hg6 hg4 o2 o2' o3 a2
 go_wp2_with fail
 have k0:=cell_of_row _ (w.heap.size+1) 0 _ _ _ HR.out
 have k1:=cell_of_row _ (w.heap.size+1) 1 _ _ _ HR.out
 refine bodyPost_ret (v:=.agg #[.slice N1 D.now.length n1,.slice P1 D.past.length p1]) (by simp [results,Tryz.f29,go_sem,k0,k1]) rfl ?_
 exact ⟨_,_,vs,rfl,HKO.out,HX.out⟩
def markedK (D:KV) (k0:Int):KV:=⟨marks D.now.length k0,markedTo D.past (k0+2 * (D.now.length:Int)) D.past.length⟩
theorem CO.ofBlock {w w':World} {base:Nat} {v:Value} {L:List (Int×Int)} (h:CO w base v L) (hb:∀ r,v.ownBlock=some r->w'.heap[r]?=w.heap[r]?):CO w' base v L:=by
 refine ⟨h.1,?_⟩
 rcases h.2 with h2 | ⟨g,cap,cur,rfl,hgb,hh,rest⟩
 ·exact .inl h2
 ·exact .inr ⟨g,cap,cur,rfl,hgb,(hb g rfl).trans hh,rest⟩
theorem c_markDesk (D:KV) (k0:Int) (vn vp:Value) (vs:List Value) (base:Nat) (w:World) (hK:KO w base vn vp D vs) (h1:D.now.length<=1048576) (h2:D.past.length<=1048576) (ht:totL D.past D.past.length<=1048576) (hk0:0<=k0) (hk1:k0<=10000000) (hbase:base<=w.heap.size) :
  Calls Tryz.prog 31 #[.agg #[vn,vp],.int .i64 k0] w fun e w'=>e=.returned (.int .i64 (k0+2 * (allK D:Int)))∧KO w' base vn vp (markedK D k0) vs∧Below base w w'∧(∀ b,b < w.heap.size->(∀ r,vn.ownBlock=some r->r≠b)->(∀ k,k < D.past.length->∀ r,(vs.getD k undef).ownBlock=some r->r≠b)->w'.heap[b]?=w.heap[b]?):=by
 obtain ⟨N1,n1,P1,p1,rfl,rfl⟩:=hK.slices
 obtain ⟨w0,hw0,hz0,hb0,HC⟩:=box_two w (.slice N1 D.now.length n1) (.slice P1 D.past.length p1) 31
 have k0':=hK.below hb0 (Nat.le_refl _)
 obtain ⟨q0,q1⟩:=HC _ (Below.refl _ w0)
 have HN:=Lib.hid (c_markCustomerS D.now k0 _ base w0 k0'.now h1 (by omega) (by omega))
 have hnb:∀ r,(Value.slice N1 D.now.length n1).ownBlock=some r->base<=r:=owns_base k0'.now
 have hnl:∀ r,(Value.slice N1 D.now.length n1).ownBlock=some r->r < w.heap.size:=owns_lt hK.now
 have HKo:=Lib.hid k0'
 have HCl:=Lib.hid HC
 clear k0' HC hK
 go_enter Tryz.func31,Tryz.ntmps31
 go_wp2_with fail
 clear hw0
 refine HN.out.mono ?_
 rintro e w1 ⟨rfl,o1,hg1⟩
 have hs1:=hg1.size
 have hp1:PL w1 base (.slice P1 D.past.length p1) D.past vs:=HKo.out.past.kept hg1 (fun r hr e=>HKo.out.apn r e hr) (fun k hk r hr e=>HKo.out.api k hk r hr e)
 have q2:w1.cell? ⟨w.heap.size,1,none⟩=some (.slice P1 D.past.length p1):=(World.cell?_of_block (hg1.block w.heap.size (by omega) (fun e=>by have:=hnl _ e.symm;omega))).trans q1
 have hx1:Below base w w1:=(hb0.mono hbase).grown hg1 (by omega) (fun k e=>hnb k e)
 have HM:=Lib.hid (c_markCC D.past (k0+2 * (D.now.length:Int)) _ vs base w1 hp1 h2 ht (by omega) (by omega) (by omega))
 clear q0 q1
 go_wp2_with fail
 refine HM.out.mono ?_
 rintro e w2 ⟨rfl,hp2,hb2,hB2⟩
 have HO2:=Lib.hid (show KO w2 base (.slice N1 D.now.length n1) (.slice P1 D.past.length p1) (markedK D k0) vs from
  ⟨o1.ofBlock (fun r hr=>hB2 r (by have:=hnl r hr;omega) (fun k hk e=>HKo.out.api k hk r e hr)),hp2,fun r hr=>HKo.out.apn r hr,fun k hk r hr=>HKo.out.api k (by simpa [markedK,markedTo_len] using hk) r hr⟩)
 have HBB:=Lib.hid (fun b (hb:b < w.heap.size) (hn1:∀ r,(Value.slice N1 D.now.length n1).ownBlock=some r->r≠b) (hn2:∀ k,k < D.past.length->∀ r,(vs.getD k undef).ownBlock=some r->r≠b)=>show w2.heap[b]?=w.heap[b]? from
  ((hB2 b (by omega) (fun k hk e=>hn2 k hk b e rfl)).trans (hg1.block b (by omega) (fun e=>hn1 b e.symm rfl))).trans (hb0.block b hb))
 clear hp1 hp2 o1 hg1 HM hB2
 go_wp2_with fail
 go_ret
 exact ⟨by simp only [allK];congr 1;simp;omega,HO2.out,hx1.trans hb2,HBB.out⟩
theorem c_heldDesk (D:KV) (k0:Int) (vn vp:Value) (w:World) (hK:Ks w w.heap.size vn vp (markedK D k0)) (h1:D.now.length<=1048576) (h2:D.past.length<=1048576) (ht:totL D.past D.past.length<=1048576) (hk0:0<=k0) (hk1:k0<=10000000) :
  Calls Tryz.prog 32 #[.agg #[vn,vp],.int .i64 k0] w fun e w'=>e=.returned (.int .i64 (k0+2 * (allK D:Int)))∧Below w.heap.size w w':=by
 obtain ⟨⟨An,cn,rfl,hcn,hN⟩,Ap,cp,rfl,hcp,hP⟩:=hK
 have e1:(markedK D k0).now.length=D.now.length:=marks_len _ _
 have e2:(markedK D k0).past.length=D.past.length:=markedTo_len _ _ _
 rw [e1,e2]
 obtain ⟨w0,hw0,hz0,hb0,HC⟩:=box_two w (.slice An D.now.length cn) (.slice Ap D.past.length cp) 31
 obtain ⟨q0,q1⟩:=HC _ (Below.refl _ w0)
 have HN:=Lib.hid (c_heldCustomerS D.now.length k0 An cn w0.heap.size w0 ((hN.below hb0).more (by omega)) h1 (by omega) (by omega))
 have HP:=Lib.hid (c_heldCC D.past (k0+2 * (D.now.length:Int)) Ap cp w0.heap.size w0 ((hP.below hb0).more (by omega)) ht (by omega) (by omega) h2)
 have d1:decide (k0+2 * (D.now.length:Int) < 0)=false:=decide_eq_false (by omega)
 have d2:decide (k0+2 * (D.now.length:Int)+2 * (totL D.past D.past.length:Int) < 0)=false:=decide_eq_false (by omega)
 clear HC hN hP e1 e2
 go_enter Tryz.func32,Tryz.ntmps32
 go_wp2_with fail
 clear hw0
 refine HN.out.mono ?_
 rintro e w1 ⟨rfl,rfl⟩
 go_wp2_with fail
 refine HP.out.mono ?_
 rintro e w2 ⟨rfl,rfl⟩
 go_wp2_with fail
 go_ret
 exact ⟨by simp only [allK];congr 1;simp;omega,hb0⟩
end
section
attribute [local go_sem ↓] Go.wp_at_zero Go.wp_at_succ
theorem deedL_come {a b:Int} (ha:0<=a∧a<=99) (hb:0<=b∧b<=99):deedL ⟨0,a,b⟩=wCome++[32]++numL a.toNat++[32]++numL b.toNat:=by rw [deedL,if_pos ⟨rfl,ha,hb⟩]
theorem deedL_none {k a b:Int} (h0:¬ (k=0∧(0<=a∧a<=99)∧(0<=b∧b<=99))) (h2:¬ (k=2∧(0<=a∧a<=99)∧b=0)) (h3:¬ (k=3∧(0<=a∧a<=99)∧b=0))
  (h1:¬ (k=1∧a=0∧b=0)) (h4:¬ (k=4∧a=0∧b=0)):deedL ⟨k,a,b⟩=[]:=by
 rw [deedL,if_neg h0,if_neg h2,if_neg h3,if_neg (by simpa using h1),if_neg (by simpa using h4)]
theorem deedL_need {a:Int} (ha:0<=a∧a<=99):deedL ⟨2,a,0⟩=wNeed++[32]++numL a.toNat:=by rw [deedL,if_neg (by simp),if_pos ⟨rfl,ha,rfl⟩]
theorem deedL_later {a:Int} (ha:0<=a∧a<=99):deedL ⟨3,a,0⟩=wLater++[32]++numL a.toNat:=by rw [deedL,if_neg (by simp),if_neg (by simp),if_pos ⟨rfl,ha,rfl⟩]
theorem num_size {n:Nat} (h:n<=99):(bs (numL n)).size<=2:=by rw [bs_size];exact numL_len 1 n (by omega)
theorem c_sDeedGo  (w:World) :
  Calls Tryz.prog 94 #[.agg #[.int .i64 1,.int .i64 0,.int .i64 0]] w fun e w'=>e=.returned (.string (bs (deedL ⟨1,0,0⟩)))∧Below w.heap.size w w':=by
 have hbz:Below w.heap.size w (w.alloc (.cells #[.int .i64 1,.int .i64 0,.int .i64 0] 39)):=by (repeat (first | exact rfl | exact Below.refl _ _ | (with_reducible refine Below.drew ?_) | (with_reducible refine Below.drewN ?_ _) | (with_reducible refine Below.alloc ?_ ?_ _) | (with_reducible refine Below.setCell ?_ ?_ _) | (show _<=_;focus (first | omega | (simp;done) | (simp;omega)))))
 go_enter Tryz.func94,Tryz.ntmps94
 go_wp2_with fail
 go_ret
 exact ⟨rfl,hbz⟩
theorem c_sDeedBack  (w:World) :
  Calls Tryz.prog 94 #[.agg #[.int .i64 4,.int .i64 0,.int .i64 0]] w fun e w'=>e=.returned (.string (bs (deedL ⟨4,0,0⟩)))∧Below w.heap.size w w':=by
 have hbz:Below w.heap.size w (w.alloc (.cells #[.int .i64 4,.int .i64 0,.int .i64 0] 39)):=by (repeat (first | exact rfl | exact Below.refl _ _ | (with_reducible refine Below.drew ?_) | (with_reducible refine Below.drewN ?_ _) | (with_reducible refine Below.alloc ?_ ?_ _) | (with_reducible refine Below.setCell ?_ ?_ _) | (show _<=_;focus (first | omega | (simp;done) | (simp;omega)))))
 go_enter Tryz.func94,Tryz.ntmps94
 go_wp2_with fail
 go_ret
 exact ⟨rfl,hbz⟩
theorem c_sDeedCome (an bn:Nat) (han:an<=99) (hbn:bn<=99) (w:World) :
  Calls Tryz.prog 94 #[.agg #[.int .i64 0,.int .i64 (an:Int),.int .i64 (bn:Int)]] w fun e w'=>e=.returned (.string (bs (deedL ⟨0,(an:Int),(bn:Int)⟩)))∧Below w.heap.size w w':=by
 have HA:=Lib.hid (fun W=>c_l1In (an:Int) 0 99 W)
 have DA:=Lib.hid (show decide (0<=(an:Int)∧(an:Int)<=99)=true from decide_eq_true (by omega))
 have HN:=Lib.hid (fun W=>c_sNumber an W (by omega))
 have HV:=Lib.hid (deedL_come (a:=(an:Int)) (b:=(bn:Int)) (by omega) (by omega))
 have z1:=num_size (n:=an) (by omega)
 have z2:=num_size (n:=bn) (by omega)
 have HK:=Lib.hid (fun (n:Nat) W (h:n<=99)=>c_sNumber n W (by omega))
 have HB:=Lib.hid (fun W=>c_l1In (bn:Int) 0 99 W)
 have DB:=Lib.hid (show decide (0<=(bn:Int)∧(bn:Int)<=99)=true from decide_eq_true (by omega))
 have hb1:Below w.heap.size w (w.alloc (.cells #[.int .i64 0,.int .i64 (an:Int),.int .i64 (bn:Int)] 39)):=by (repeat (first | exact rfl | exact Below.refl _ _ | (with_reducible refine Below.drew ?_) | (with_reducible refine Below.drewN ?_ _) | (with_reducible refine Below.alloc ?_ ?_ _) | (with_reducible refine Below.setCell ?_ ?_ _) | (show _<=_;focus (first | omega | (simp;done) | (simp;omega)))))
 have c0:=World.cell?_alloc_mark w #[.int .i64 0,.int .i64 (an:Int),.int .i64 (bn:Int)] 39 (0,0) 0
 have c1:=World.cell?_alloc_mark w #[.int .i64 0,.int .i64 (an:Int),.int .i64 (bn:Int)] 39 (0,0) 1
 have c2:=World.cell?_alloc_mark w #[.int .i64 0,.int .i64 (an:Int),.int .i64 (bn:Int)] 39 (0,0) 2
 have hsz:w.heap.size < (w.alloc (.cells #[.int .i64 0,.int .i64 (an:Int),.int .i64 (bn:Int)] 39)).heap.size:=by simp
 have C1:=Lib.hid c1
 have C2:=Lib.hid c2
 clear c0 c1 c2
 go_enter Tryz.func94,Tryz.ntmps94
 go_wp2_with fail
 refine (HA.out _).mono ?_
 rintro e w1 ⟨rfl,rfl⟩
 rw [DA.out]
 go_wp2_with fail
 refine (HB.out _).mono ?_
 rintro e w1 ⟨rfl,rfl⟩
 rw [DB.out]
 go_wp2_with fail
 have c1:=C1.out
 have c2:=C2.out
 generalize w.alloc (.cells #[.int .i64 0,.int .i64 (an:Int),.int .i64 (bn:Int)] 39)=w1 at *
 have g1:=WB.cell (w:=w1) hsz c1
 have g2:=WB.cell (w:=w1) hsz c2
 clear c1 c2 C1 C2
 have y1:¬ (({ data:=#[99,111,109,101,32] }:ByteArray).size+(bs (numL an)).size > 9223372036854775807):=by show ¬ (5+_ > _);omega
 have y2:¬ (9223372036854775807 < 5+(bs (numL an)).size):=by omega
 have y3:¬ (9223372036854775807 < 5+(bs (numL an)).size+1):=by omega
 have y4:¬ (9223372036854775807 < 5+(bs (numL an)).size+1+(bs (numL bn)).size):=by omega
 refine wp_region_wb w1.heap.size (by kernel_rfl) (by kernel_rfl) ?_
 repeat (go_big_quiet_step ((go_at_call 65;exact Calls.inB (Nat.le_refl _) (HK.out _ _ (by omega)))))
 refine wpQuiet_nil ?_
 rintro w2 ⟨⟨_,hb2⟩,rfl⟩
 clear g1 g2 y1 y2 y3 y4
 go_wp2_with fail
 go_ret
 exact ⟨by rw [HV.out,<- bs_append,<- bs_append,<- bs_append,<- bs_append,Int.toNat_natCast,Int.toNat_natCast];rfl,hb1.trans (hb2.mono hb1.size)⟩
theorem c_sDeedNeed (an:Nat) (han:an<=99) (w:World) :
  Calls Tryz.prog 94 #[.agg #[.int .i64 2,.int .i64 (an:Int),.int .i64 0]] w fun e w'=>e=.returned (.string (bs (deedL ⟨2,(an:Int),0⟩)))∧Below w.heap.size w w':=by
 have HA:=Lib.hid (fun W=>c_l1In (an:Int) 0 99 W)
 have DA:=Lib.hid (show decide (0<=(an:Int)∧(an:Int)<=99)=true from decide_eq_true (by omega))
 have HN:=Lib.hid (fun W=>c_sNumber an W (by omega))
 have HV:=Lib.hid (deedL_need (a:=(an:Int)) (by omega))
 have z1:=num_size (n:=an) (by omega)
 have hb1:Below w.heap.size w (w.alloc (.cells #[.int .i64 2,.int .i64 (an:Int),.int .i64 0] 39)):=by (repeat (first | exact rfl | exact Below.refl _ _ | (with_reducible refine Below.drew ?_) | (with_reducible refine Below.drewN ?_ _) | (with_reducible refine Below.alloc ?_ ?_ _) | (with_reducible refine Below.setCell ?_ ?_ _) | (show _<=_;focus (first | omega | (simp;done) | (simp;omega)))))
 have c0:=World.cell?_alloc_mark w #[.int .i64 2,.int .i64 (an:Int),.int .i64 0] 39 (0,0) 0
 have c1:=World.cell?_alloc_mark w #[.int .i64 2,.int .i64 (an:Int),.int .i64 0] 39 (0,0) 1
 have c2:=World.cell?_alloc_mark w #[.int .i64 2,.int .i64 (an:Int),.int .i64 0] 39 (0,0) 2
 have hsz:w.heap.size < (w.alloc (.cells #[.int .i64 2,.int .i64 (an:Int),.int .i64 0] 39)).heap.size:=by simp
 have C1:=Lib.hid c1
 have C2:=Lib.hid c2
 clear c0 c1 c2
 go_enter Tryz.func94,Tryz.ntmps94
 go_wp2_with fail
 refine (HA.out _).mono ?_
 rintro e w1 ⟨rfl,rfl⟩
 rw [DA.out]
 go_wp2_with fail
 refine (HN.out _).mono ?_
 rintro e w2 ⟨rfl,hb2⟩
 have hx:=hb1.trans (hb2.mono hb1.size)
 have y2:¬ (9223372036854775807 < 5+(bs (numL an)).size):=by omega
 clear C1 C2
 go_wp2_with fail
 go_ret
 exact ⟨by rw [HV.out,<- bs_append,<- bs_append,Int.toNat_natCast];rfl,hx⟩
theorem c_sDeedLater (an:Nat) (han:an<=99) (w:World) :
  Calls Tryz.prog 94 #[.agg #[.int .i64 3,.int .i64 (an:Int),.int .i64 0]] w fun e w'=>e=.returned (.string (bs (deedL ⟨3,(an:Int),0⟩)))∧Below w.heap.size w w':=by
 have HA:=Lib.hid (fun W=>c_l1In (an:Int) 0 99 W)
 have DA:=Lib.hid (show decide (0<=(an:Int)∧(an:Int)<=99)=true from decide_eq_true (by omega))
 have HN:=Lib.hid (fun W=>c_sNumber an W (by omega))
 have HV:=Lib.hid (deedL_later (a:=(an:Int)) (by omega))
 have z1:=num_size (n:=an) (by omega)
 have hb1:Below w.heap.size w (w.alloc (.cells #[.int .i64 3,.int .i64 (an:Int),.int .i64 0] 39)):=by (repeat (first | exact rfl | exact Below.refl _ _ | (with_reducible refine Below.drew ?_) | (with_reducible refine Below.drewN ?_ _) | (with_reducible refine Below.alloc ?_ ?_ _) | (with_reducible refine Below.setCell ?_ ?_ _) | (show _<=_;focus (first | omega | (simp;done) | (simp;omega)))))
 have c0:=World.cell?_alloc_mark w #[.int .i64 3,.int .i64 (an:Int),.int .i64 0] 39 (0,0) 0
 have c1:=World.cell?_alloc_mark w #[.int .i64 3,.int .i64 (an:Int),.int .i64 0] 39 (0,0) 1
 have c2:=World.cell?_alloc_mark w #[.int .i64 3,.int .i64 (an:Int),.int .i64 0] 39 (0,0) 2
 have hsz:w.heap.size < (w.alloc (.cells #[.int .i64 3,.int .i64 (an:Int),.int .i64 0] 39)).heap.size:=by simp
 have C1:=Lib.hid c1
 have C2:=Lib.hid c2
 clear c0 c1 c2
 go_enter Tryz.func94,Tryz.ntmps94
 go_wp2_with fail
 refine (HA.out _).mono ?_
 rintro e w1 ⟨rfl,rfl⟩
 rw [DA.out]
 go_wp2_with fail
 refine (HN.out _).mono ?_
 rintro e w2 ⟨rfl,hb2⟩
 have hx:=hb1.trans (hb2.mono hb1.size)
 have y2:¬ (9223372036854775807 < 6+(bs (numL an)).size):=by omega
 clear C1 C2
 go_wp2_with fail
 go_ret
 exact ⟨by rw [HV.out,<- bs_append,<- bs_append,Int.toNat_natCast];rfl,hx⟩
theorem c_sDeedText (k a b:Int) (w:World) :
  Calls Tryz.prog 94 #[.agg #[.int .i64 k,.int .i64 a,.int .i64 b]] w fun e w'=>e=.returned (.string (bs (deedL ⟨k,a,b⟩)))∧Below w.heap.size w w':=by
 have HA:=Lib.hid (fun W=>c_l1In a 0 99 W)
 have HB:=Lib.hid (fun W=>c_l1In b 0 99 W)
 have hbz:Below w.heap.size w (w.alloc (.cells #[.int .i64 k,.int .i64 a,.int .i64 b] 39)):=by (repeat (first | exact rfl | exact Below.refl _ _ | (with_reducible refine Below.drew ?_) | (with_reducible refine Below.drewN ?_ _) | (with_reducible refine Below.alloc ?_ ?_ _) | (with_reducible refine Below.setCell ?_ ?_ _) | (show _<=_;focus (first | omega | (simp;done) | (simp;omega)))))
 by_cases k0:k=0
 ·subst k0
  by_cases ha:0<=a∧a<=99
  ·by_cases hb:0<=b∧b<=99
   ·obtain ⟨an,rfl⟩:∃ n:Nat,a=(n:Int):=⟨a.toNat,by omega⟩
    obtain ⟨bn,rfl⟩:∃ n:Nat,b=(n:Int):=⟨b.toNat,by omega⟩
    exact c_sDeedCome an bn (by omega) (by omega) w
   ·have DA:=Lib.hid (decide_eq_true ha)
    have DB:=Lib.hid (decide_eq_false hb)
    have HV:=Lib.hid (deedL_none (k:=0) (a:=a) (b:=b) (fun h=>hb h.2.2) (by omega) (by omega) (by omega) (by omega))
    clear ha hb
    go_enter Tryz.func94,Tryz.ntmps94
    go_wp2_with fail
    refine (HA.out _).mono ?_
    rintro e w1 ⟨rfl,rfl⟩
    rw [DA.out]
    go_wp2_with fail
    refine (HB.out _).mono ?_
    rintro e w1 ⟨rfl,rfl⟩
    rw [DB.out]
    go_wp2_with fail
    go_ret
    exact ⟨by rw [HV.out];rfl,hbz⟩
  ·have DA:=Lib.hid (decide_eq_false ha)
   have HV:=Lib.hid (deedL_none (k:=0) (a:=a) (b:=b) (fun h=>ha h.2.1) (by omega) (by omega) (by omega) (by omega))
   clear ha
   go_enter Tryz.func94,Tryz.ntmps94
   go_wp2_with fail
   refine (HA.out _).mono ?_
   rintro e w1 ⟨rfl,rfl⟩
   rw [DA.out]
   go_wp2_with fail
   go_ret
   exact ⟨by rw [HV.out];rfl,hbz⟩
 ·have e0:(k == 0)=false:=beq_eq_false_iff_ne.2 k0
  by_cases k2:k=2
  ·subst k2
   by_cases ha:0<=a∧a<=99
   ·have DA:=Lib.hid (decide_eq_true ha)
    by_cases hb:b=0
    ·subst hb
     obtain ⟨an,rfl⟩:∃ n:Nat,a=(n:Int):=⟨a.toNat,by omega⟩
     exact c_sDeedNeed an (by omega) w
    ·have hb0:(b == 0)=false:=beq_eq_false_iff_ne.2 hb
     have HV:=Lib.hid (deedL_none (k:=2) (a:=a) (b:=b) (by omega) (by omega) (by omega) (by omega) (by omega))
     clear ha hb
     go_enter Tryz.func94,Tryz.ntmps94
     go_wp2_with fail
     refine (HA.out _).mono ?_
     rintro e w1 ⟨rfl,rfl⟩
     rw [DA.out]
     go_wp2_with fail
     go_ret
     exact ⟨by rw [HV.out];rfl,hbz⟩
   ·have DA:=Lib.hid (decide_eq_false ha)
    have HV:=Lib.hid (deedL_none (k:=2) (a:=a) (b:=b) (by omega) (by omega) (by omega) (by omega) (by omega))
    clear ha
    go_enter Tryz.func94,Tryz.ntmps94
    go_wp2_with fail
    refine (HA.out _).mono ?_
    rintro e w1 ⟨rfl,rfl⟩
    rw [DA.out]
    go_wp2_with fail
    go_ret
    exact ⟨by rw [HV.out];rfl,hbz⟩
  ·have e2:(k == 2)=false:=beq_eq_false_iff_ne.2 k2
   by_cases k3:k=3
   ·subst k3
    by_cases ha:0<=a∧a<=99
    ·have DA:=Lib.hid (decide_eq_true ha)
     by_cases hb:b=0
     ·subst hb
      obtain ⟨an,rfl⟩:∃ n:Nat,a=(n:Int):=⟨a.toNat,by omega⟩
      exact c_sDeedLater an (by omega) w
     ·have hb0:(b == 0)=false:=beq_eq_false_iff_ne.2 hb
      have HV:=Lib.hid (deedL_none (k:=3) (a:=a) (b:=b) (by omega) (by omega) (by omega) (by omega) (by omega))
      clear ha hb
      go_enter Tryz.func94,Tryz.ntmps94
      go_wp2_with fail
      refine (HA.out _).mono ?_
      rintro e w1 ⟨rfl,rfl⟩
      rw [DA.out]
      go_wp2_with fail
      go_ret
      exact ⟨by rw [HV.out];rfl,hbz⟩
    ·have DA:=Lib.hid (decide_eq_false ha)
     have HV:=Lib.hid (deedL_none (k:=3) (a:=a) (b:=b) (by omega) (by omega) (by omega) (by omega) (by omega))
     clear ha
     go_enter Tryz.func94,Tryz.ntmps94
     go_wp2_with fail
     refine (HA.out _).mono ?_
     rintro e w1 ⟨rfl,rfl⟩
     rw [DA.out]
     go_wp2_with fail
     go_ret
     exact ⟨by rw [HV.out];rfl,hbz⟩
   ·have e3:(k == 3)=false:=beq_eq_false_iff_ne.2 k3
    by_cases h1:k=1∧a=0∧b=0
    ·obtain ⟨rfl,rfl,rfl⟩:=h1
     exact c_sDeedGo w
    ·by_cases h4:k=4∧a=0∧b=0
     ·obtain ⟨rfl,rfl,rfl⟩:=h4
      exact c_sDeedBack w
     ·have HV:=Lib.hid (deedL_none (fun h=>k0 h.1) (fun h=>k2 h.1) (fun h=>k3 h.1) h1 h4)
      have f1:¬ (k=1∧a=0∧b=0):=h1
      have f4:¬ (k=4∧a=0∧b=0):=h4
      clear HA HB
      go_enter Tryz.func94,Tryz.ntmps94
      go_wp2_with fail
      all_goals
       go_ret
       exact ⟨by rw [HV.out];rfl,by (repeat (first | exact rfl | exact Below.refl _ _ | (with_reducible refine Below.drew ?_) | (with_reducible refine Below.drewN ?_ _) | (with_reducible refine Below.alloc ?_ ?_ _) | (with_reducible refine Below.setCell ?_ ?_ _) | (show _<=_;focus (first | omega | (simp;done) | (simp;omega)))))⟩
end
section
attribute [local go_sem ↓] Go.wp_at_zero Go.wp_at_succ
theorem take_snocB (s:ByteArray) (k:Nat) (h:k < s.size):s.data.toList.take (k+1)=s.data.toList.take k++[s[k]]:=by
 rw [List.take_succ_eq_append_getElem (by simpa using h)];rfl
theorem valN_lt:∀ (m:Nat) (l:List UInt8),l.length=m->l.all isD=true->valN l < 10 ^ m:=by
 intro m
 induction m with
 | zero=>intro l hl _;rw [List.length_eq_zero_iff.1 hl];simp [valN]
 | succ m ih =>
  intro l hl ha
  have hne:l≠[]:=by intro e;subst e;simp at hl
  obtain ⟨K,c,rfl⟩:∃ K c,l=K++[c]:=⟨l.dropLast,l.getLast hne,(List.dropLast_concat_getLast hne).symm⟩
  simp only [List.all_append,Bool.and_eq_true,List.all_cons,List.all_nil,and_true] at ha
  have hc:=isD_nat ha.2
  have:=ih K (by simpa using hl) ha.1
  rw [valN_snoc,Nat.pow_succ];omega
theorem digL_no {l:List UInt8} (h:digOk l=false):digL l=-1:=by simp [digL,h]
theorem digL_yes {l:List UInt8} (h:digOk l=true):digL l=valN l:=if_pos h
theorem digOk_len {l:List UInt8} (h:¬ (1<=l.length∧l.length<=6)):digOk l=false:=by
 cases e:digOk l with
 | false=>rfl
 | true=>exact absurd (digOk_parts e).1 h
theorem digOk_zero {l:List UInt8} (h:1 < l.length) (hz:l.head?=some 48):digOk l=false:=by
 cases e:digOk l with
 | false=>rfl
 | true=>exact absurd hz ((digOk_parts e).2.1 h)
theorem digOk_bad {l:List UInt8} {c:UInt8} (h:c ∈ l) (hc:isD c=false):digOk l=false:=by
 cases e:digOk l with
 | false=>rfl
 | true=>have:=List.all_eq_true.1 (digOk_parts e).2.2 c h;rw [hc] at this;cases this
theorem digOk_mk {l:List UInt8} (h1:1<=l.length∧l.length<=6) (h2:1 < l.length->l.head?≠some 48) (h3:l.all isD=true):digOk l=true:=by
 simp only [digOk,Bool.and_eq_true,decide_eq_true_eq,h3,and_true,Bool.not_eq_true',Bool.and_eq_false_iff,decide_eq_false_iff_not]
 refine ⟨h1,?_⟩
 by_cases h:1 < l.length
 ·right
  have:=h2 h
  cases hx:l.head? with
  | none=>rfl
  | some c=>rw [hx] at this;simpa using this
 ·exact .inl h
theorem c_sDigits (s:ByteArray) (hs:s.size<=1000000000000) (w:World) :
  Calls Tryz.prog 76 #[.string s] w fun e w'=>e=.returned (.int .i64 (digL s.data.toList))∧w'=w:=by
 have hlen:s.data.toList.length=s.size:=Array.length_toList
 have HI:=Lib.hid (fun W=>c_l1In (s.size:Int) 1 6 W)
 by_cases hl:1<=s.size∧s.size<=6
 ·have HD:=Lib.hid (show decide (1<=(s.size:Int)∧(s.size:Int)<=6)=true from decide_eq_true (by omega))
  have hhd:s.data.toList.head?=some s[0]:=by
   have h0:0 < s.data.toList.length:=by omega
   rw [List.head?_eq_getElem?,List.getElem?_eq_getElem h0];rfl
  have HH:=Lib.hid hhd
  have HBad:=Lib.hid (fun (k:Nat) (hk:k < s.size) (hc:isD s[k]=false)=>digL_no (digOk_bad (l:=s.data.toList) (c:=s[k]) (by
   have:s.data.toList[k]'(by omega) ∈ s.data.toList:=List.getElem_mem _
   exact this) hc))
  have HT:=Lib.hid (fun k (hk:k < s.size)=>take_snocB s k hk)
  have p0:(0:Int) < (s.size:Int):=by omega
  have p00:0 < s.size:=by omega
  have HAll:=Lib.hid (show s.data.toList.take s.size=s.data.toList from List.take_of_length_le (by omega))
  clear hhd
  by_cases h2:1 < s.size
  ·have d2:decide ((1:Int) < (s.size:Int))=true:=decide_eq_true (by omega)
   have d2':(1:Int) < (s.size:Int):=by omega
   by_cases hz:s[0]=48
   ·have dz:((s[0].toNat:Int) == 48)=true:=by rw [hz];rfl
    have HV:=Lib.hid (digL_no (digOk_zero (l:=s.data.toList) (by omega) (by rw [HH.out,hz])))
    clear hz
    go_enter Tryz.func76,Tryz.ntmps76
    go_wp2_with fail
    refine (HI.out _).mono ?_
    rintro e w1 ⟨rfl,rfl⟩
    rw [HD.out]
    go_wp2_with fail
    go_ret
    exact ⟨by rw [HV.out];rfl,rfl⟩
   ·have dz:((s[0].toNat:Int) == 48)=false:=beq_eq_false_iff_ne.2 (fun e=>hz (UInt8.toNat_inj.1 (by have:(48:UInt8).toNat=48:=rfl;omega)))
    have HMk:=Lib.hid (fun (ha:s.data.toList.all isD=true)=>digL_yes (digOk_mk (by omega) (fun _ e=>hz (by rw [HH.out] at e;simpa using e)) ha))
    clear hz
    go_enter Tryz.func76,Tryz.ntmps76
    go_wp2_with fail
    refine (HI.out _).mono ?_
    rintro e w1 ⟨rfl,rfl⟩
    rw [HD.out]
    go_wp2_with fail
    clear d2 d2'
    go_loop [3,4] (fun n i=>∃ k:Nat,k<=s.size∧i=.int .i64 (k:Int)∧n=.int .i64 ((valN (s.data.toList.take k):Nat):Int)∧(s.data.toList.take k).all isD=true) (fun _ i=>s.size - (intOf i).toNat)
    case atStart=>exact ⟨0,by omega,rfl,rfl,rfl⟩
    case round =>
     obtain ⟨k,hk,rfl,rfl,ha⟩:=hrel
     by_cases hlt:k < s.size
     ·have hv:=valN_lt _ (s.data.toList.take k) rfl ha
      have hv2:(10:Nat) ^ (s.data.toList.take k).length<=10 ^ 5:=Nat.pow_le_pow_right (by omega) (by rw [List.length_take];omega)
      have hv3:valN (s.data.toList.take k) < 100000:=by omega
      have HS:=Lib.hid (show valN (s.data.toList.take (k+1))=10 * valN (s.data.toList.take k)+(s[k].toNat - 48) by rw [HT.out k hlt,valN_snoc])
      have HSa:=Lib.hid (show (s.data.toList.take (k+1)).all isD=isD s[k] by rw [HT.out k hlt,List.all_append,ha];simp)
      have HB:=Lib.hid (HBad.out k hlt)
      have p1:(0:Int)<=(k:Int):=by omega
      have p2:(k:Int) < (s.size:Int):=by omega
      have c256:=s[k].toNat_lt
      obtain ⟨vn,hvn⟩:∃ vn:Int,((valN (s.data.toList.take k):Nat):Int)=vn:=⟨_,rfl⟩
      have HVN:=Lib.hid hvn
      have hb1:0<=vn:=by omega
      have hb2:vn < 100000:=by omega
      rw [hvn]
      clear hv hv2 hv3 hvn ha
      by_cases h48:(s[k].toNat:Int) < 48
      ·have e1:decide ((s[k].toNat:Int) < 48)=true:=decide_eq_true h48
       have HF:=Lib.hid (show isD s[k]=false by simp only [isD,decide_eq_false_iff_not];omega)
       go_wp2_with fail
       go_ret
       exact ⟨by rw [HB.out HF.out];rfl,rfl⟩
      ·have e1:decide ((s[k].toNat:Int) < 48)=false:=decide_eq_false h48
       by_cases h57:57 < (s[k].toNat:Int)
       ·have e2:decide (57 < (s[k].toNat:Int))=true:=decide_eq_true h57
        have HF:=Lib.hid (show isD s[k]=false by simp only [isD,decide_eq_false_iff_not];omega)
        go_wp2_with fail
        go_ret
        exact ⟨by rw [HB.out HF.out];rfl,rfl⟩
       ·have e2:decide (57 < (s[k].toNat:Int))=false:=decide_eq_false h57
        have HF:=Lib.hid (show isD s[k]=true by simp only [isD,decide_eq_true_eq];omega)
        have HN:=Lib.hid (show ((s[k].toNat - 48:Nat):Int)=(s[k].toNat:Int) - 48 by omega)
        have q1:IntKind.i64.wrap (10 * vn)=10 * vn:=IntWalk.i64_in _ (by omega)
        have q2:IntKind.u8.wrap ((s[k].toNat:Int) - 48)=(s[k].toNat:Int) - 48:=IntWalk.u8_in _ (by omega)
        have q3:IntKind.i64.wrap ((s[k].toNat:Int) - 48)=(s[k].toNat:Int) - 48:=IntWalk.i64_in _ (by omega)
        have q4:IntKind.i64.wrap (10 * vn+((s[k].toNat:Int) - 48))=10 * vn+((s[k].toNat:Int) - 48):=IntWalk.i64_in _ (by omega)
        go_wp2_with fail
        go_round
        case rel=>exact ⟨k+1,by omega,by go_num,by rw [HS.out];congr 1;have:=HVN.out;have:=HN.out;omega,by rw [HSa.out];exact HF.out⟩
        case measure=>simp [intOf];omega
     ·have p2:¬ (k:Int) < (s.size:Int):=by omega
      have hk9:s.data.toList.take k=s.data.toList:=List.take_of_length_le (by omega)
      rw [hk9] at ha
      have HV:=Lib.hid (show digL s.data.toList=((valN (s.data.toList.take k):Nat):Int) by rw [HMk.out ha,hk9])
      clear hk9 ha
      go_wp2_with fail
      go_ret
      exact ⟨by rw [HV.out];rfl,rfl⟩
  ·have d2:decide ((1:Int) < (s.size:Int))=false:=decide_eq_false (by omega)
   have d2':¬ (1:Int) < (s.size:Int):=by omega
   have HMk:=Lib.hid (fun (ha:s.data.toList.all isD=true)=>digL_yes (digOk_mk (by omega) (fun h=>absurd h (by omega)) ha))
   go_enter Tryz.func76,Tryz.ntmps76
   go_wp2_with fail
   refine (HI.out _).mono ?_
   rintro e w1 ⟨rfl,rfl⟩
   rw [HD.out]
   go_wp2_with fail
   clear d2 d2'
   go_loop [3,4] (fun n i=>∃ k:Nat,k<=s.size∧i=.int .i64 (k:Int)∧n=.int .i64 ((valN (s.data.toList.take k):Nat):Int)∧(s.data.toList.take k).all isD=true) (fun _ i=>s.size - (intOf i).toNat)
   case atStart=>exact ⟨0,by omega,rfl,rfl,rfl⟩
   case round =>
    obtain ⟨k,hk,rfl,rfl,ha⟩:=hrel
    by_cases hlt:k < s.size
    ·have hv:=valN_lt _ (s.data.toList.take k) rfl ha
     have hv2:(10:Nat) ^ (s.data.toList.take k).length<=10 ^ 5:=Nat.pow_le_pow_right (by omega) (by rw [List.length_take];omega)
     have hv3:valN (s.data.toList.take k) < 100000:=by omega
     have HS:=Lib.hid (show valN (s.data.toList.take (k+1))=10 * valN (s.data.toList.take k)+(s[k].toNat - 48) by rw [HT.out k hlt,valN_snoc])
     have HSa:=Lib.hid (show (s.data.toList.take (k+1)).all isD=isD s[k] by rw [HT.out k hlt,List.all_append,ha];simp)
     have HB:=Lib.hid (HBad.out k hlt)
     have p1:(0:Int)<=(k:Int):=by omega
     have p2:(k:Int) < (s.size:Int):=by omega
     have c256:=s[k].toNat_lt
     obtain ⟨vn,hvn⟩:∃ vn:Int,((valN (s.data.toList.take k):Nat):Int)=vn:=⟨_,rfl⟩
     have HVN:=Lib.hid hvn
     have hb1:0<=vn:=by omega
     have hb2:vn < 100000:=by omega
     rw [hvn]
     clear hv hv2 hv3 hvn ha
     by_cases h48:(s[k].toNat:Int) < 48
     ·have e1:decide ((s[k].toNat:Int) < 48)=true:=decide_eq_true h48
      have HF:=Lib.hid (show isD s[k]=false by simp only [isD,decide_eq_false_iff_not];omega)
      go_wp2_with fail
      go_ret
      exact ⟨by rw [HB.out HF.out];rfl,rfl⟩
     ·have e1:decide ((s[k].toNat:Int) < 48)=false:=decide_eq_false h48
      by_cases h57:57 < (s[k].toNat:Int)
      ·have e2:decide (57 < (s[k].toNat:Int))=true:=decide_eq_true h57
       have HF:=Lib.hid (show isD s[k]=false by simp only [isD,decide_eq_false_iff_not];omega)
       go_wp2_with fail
       go_ret
       exact ⟨by rw [HB.out HF.out];rfl,rfl⟩
      ·have e2:decide (57 < (s[k].toNat:Int))=false:=decide_eq_false h57
       have HF:=Lib.hid (show isD s[k]=true by simp only [isD,decide_eq_true_eq];omega)
       have HN:=Lib.hid (show ((s[k].toNat - 48:Nat):Int)=(s[k].toNat:Int) - 48 by omega)
       have q1:IntKind.i64.wrap (10 * vn)=10 * vn:=IntWalk.i64_in _ (by omega)
       have q2:IntKind.u8.wrap ((s[k].toNat:Int) - 48)=(s[k].toNat:Int) - 48:=IntWalk.u8_in _ (by omega)
       have q3:IntKind.i64.wrap ((s[k].toNat:Int) - 48)=(s[k].toNat:Int) - 48:=IntWalk.i64_in _ (by omega)
       have q4:IntKind.i64.wrap (10 * vn+((s[k].toNat:Int) - 48))=10 * vn+((s[k].toNat:Int) - 48):=IntWalk.i64_in _ (by omega)
       go_wp2_with fail
       go_round
       case rel=>exact ⟨k+1,by omega,by go_num,by rw [HS.out];congr 1;have:=HVN.out;have:=HN.out;omega,by rw [HSa.out];exact HF.out⟩
       case measure=>simp [intOf];omega
    ·have p2:¬ (k:Int) < (s.size:Int):=by omega
     have hk9:s.data.toList.take k=s.data.toList:=List.take_of_length_le (by omega)
     rw [hk9] at ha
     have HV:=Lib.hid (show digL s.data.toList=((valN (s.data.toList.take k):Nat):Int) by rw [HMk.out ha,hk9])
     clear hk9 ha
     go_wp2_with fail
     go_ret
     exact ⟨by rw [HV.out];rfl,rfl⟩
 ·have HD:=Lib.hid (show decide (1<=(s.size:Int)∧(s.size:Int)<=6)=false from decide_eq_false (by omega))
  have HV:=Lib.hid (digL_no (digOk_len (l:=s.data.toList) (by omega)))
  clear hl
  go_enter Tryz.func76,Tryz.ntmps76
  go_wp2_with fail
  refine (HI.out _).mono ?_
  rintro e w1 ⟨rfl,rfl⟩
  rw [HD.out]
  go_wp2_with fail
  go_ret
  exact ⟨by rw [HV.out];rfl,rfl⟩
end
section
attribute [local go_sem ↓] Go.wp_at_zero Go.wp_at_succ
theorem extract_bs (s:ByteArray) (f k:Nat):s.extract f k=bs ((s.data.toList.take k).drop f):=by
 apply ByteArray.ext
 rw [ByteArray.data_extract]
 apply Array.toList_inj.1
 simp [bs,Array.toList_extract,List.extract_eq_take_drop,List.drop_take]
theorem take_dropB (s:ByteArray) (k f:Nat) (hk:k < s.size) (hf:f<=k):(s.data.toList.take (k+1)).drop f=(s.data.toList.take k).drop f++[s[k]]:=by
 have hl:s.data.toList.length=s.size:=Array.length_toList
 rw [take_snocB s k hk,List.drop_append_of_le_length (by rw [List.length_take];omega)]
theorem c_sCut (s:ByteArray) (c:UInt8) (hs:s.size<=100000000000) (w:World) :
  Calls Tryz.prog 75 #[.string s,.int .u8 (c.toNat:Int)] w fun e w'=>∃ v,e=.returned v∧SO w' w.heap.size v (cutL c s.data.toList)∧Below w.heap.size w w':=by
 have hlen:s.data.toList.length=s.size:=Array.length_toList
 have hbz:Below w.heap.size w (w.alloc (.cells #[] 9)):=by (repeat (first | exact rfl | exact Below.refl _ _ | (with_reducible refine Below.drew ?_) | (with_reducible refine Below.drewN ?_ _) | (with_reducible refine Below.alloc ?_ ?_ _) | (with_reducible refine Below.setCell ?_ ?_ _) | (show _<=_;focus (first | omega | (simp;done) | (simp;omega)))))
 have HX:=Lib.hid (fun f k=>extract_bs s f k)
 have HT:=Lib.hid (fun k (hk:k < s.size)=>take_snocB s k hk)
 have HD:=Lib.hid (fun k f (hk:k < s.size) (hf:f<=k)=>take_dropB s k f hk hf)
 have HAll:=Lib.hid (show s.data.toList.take s.size=s.data.toList from List.take_of_length_le (by omega))
 have HCl:=Lib.hid (fun k=>cutS_len c (s.data.toList.take k))
 clear hlen
 go_enter Tryz.func75,Tryz.ntmps75
 go_wp2_with fail
 go_loopw [5,6,7] (fun v f i wr=>∃ k j:Nat,k<=s.size∧j<=k∧i=.int .i64 (k:Int)∧f=.int .i64 (j:Int)∧(cutS c (s.data.toList.take k)).2=(s.data.toList.take k).drop j∧SO wr w.heap.size v (cutS c (s.data.toList.take k)).1∧Below w.heap.size w wr) (fun _ _ i _=>s.size - (intOf i).toNat)
 case atStart=>exact ⟨0,0,by omega,by omega,rfl,rfl,rfl,SO.empty w (Nat.le_refl _),hbz⟩
 case round =>
  clear hbz
  obtain ⟨k,j,hk,hj,rfl,rfl,hcur,hown,hb⟩:=hrel
  have hsz:=hb.size
  have q5:(cutS c (s.data.toList.take k)).1.length<=1000000000000:=by
   have:=HCl.out k
   rw [List.length_take] at this
   omega
  have p1:(0:Int)<=(k:Int):=by omega
  have p3:(0:Int)<=(j:Int):=by omega
  have p4:(j:Int)<=(k:Int):=by omega
  have p5:(k:Int)<=(s.size:Int):=by omega
  by_cases hlt:k < s.size
  ·have p2:(k:Int) < (s.size:Int):=by omega
   have HTk:=Lib.hid (HT.out k hlt)
   have HDk:=Lib.hid (fun i (hi:i<=k)=>HD.out k i hlt hi)
   by_cases hc:s[k]=c
   ·have d1:((s[k].toNat:Int) == (c.toNat:Int))=true:=by rw [hc];simp
    have HS:=Lib.hid (show cutS c (s.data.toList.take (k+1))=((cutS c (s.data.toList.take k)).1++[(cutS c (s.data.toList.take k)).2],[]) by rw [HTk.out,hc,cutS_sep])
    have hx:s.extract j k=bs (cutS c (s.data.toList.take k)).2:=by rw [hcur];exact HX.out j k
    have HDr:=Lib.hid (show (s.data.toList.take (k+1)).drop (k+1)=[] from List.drop_of_length_le (by rw [List.length_take];omega))
    clear hc hcur
    generalize (cutS c (s.data.toList.take k)).2=y at *
    generalize (cutS c (s.data.toList.take k)).1=ds at *
    go_wp2_with (refine app_S ?_ (.tmp 20) (.tmp 25) ?_ w.heap.size u5 ds y wr.heap.size ?_ ?_ ?_ ?_ ?_ ?_ ?_;rfl;rfl;rfl;exact (hown.alloc _);rfl;exact (heap_alloc_new _ _);exact q5;exact (Nat.le_trans hsz (by simp));intro g7 cap w7 hown7 hgr7 hb7)
    have hbx:Below w.heap.size w w7:=by
     refine Below.trans ?_ hb7
     (repeat (first | exact hb | exact Below.refl _ _ | (with_reducible refine Below.drew ?_) | (with_reducible refine Below.drewN ?_ _) | (with_reducible refine Below.alloc ?_ ?_ _) | (with_reducible refine Below.setCell ?_ ?_ _) | (show _<=_;focus (first | omega | (simp;done) | (simp;omega)))))
    go_wp2_with fail
    go_roundw
    case rel=>exact ⟨k+1,k+1,by omega,by omega,by go_num,by go_num,by rw [HS.out,HDr.out],by rw [HS.out];simpa using hown7,hbx⟩
    case measure=>simp [intOf];omega
   ·have d1:((s[k].toNat:Int) == (c.toNat:Int))=false:=beq_eq_false_iff_ne.2 (fun e=>hc (UInt8.toNat_inj.1 (by omega)))
    have HS:=Lib.hid (show cutS c (s.data.toList.take (k+1))=((cutS c (s.data.toList.take k)).1,(cutS c (s.data.toList.take k)).2++[s[k]]) by rw [HTk.out,cutS_snoc,if_neg hc])
    have HCur:=Lib.hid hcur
    clear hc hcur
    go_wp2_with fail
    go_roundw
    case rel=>exact ⟨k+1,j,by omega,by omega,by go_num,rfl,by rw [HS.out,HDk.out j hj,HCur.out],by rw [HS.out];exact hown,hb⟩
    case measure=>simp [intOf];omega
  ·have p2:¬ (k:Int) < (s.size:Int):=by omega
   have hke:s.data.toList.take k=s.data.toList:=by
    have:k=s.size:=by omega
    rw [this];exact HAll.out
   rw [hke] at hcur hown q5
   have p6:(s.size:Int)<=(s.size:Int):=Int.le_refl _
   have p7:(j:Int)<=(s.size:Int):=by omega
   have hx:s.extract j s.size=bs (cutS c s.data.toList).2:=by rw [hcur,HX.out,HAll.out]
   have HV:=Lib.hid (show cutL c s.data.toList=(cutS c s.data.toList).1++[(cutS c s.data.toList).2] from rfl)
   clear hcur hke
   generalize (cutS c s.data.toList).2=y at *
   generalize (cutS c s.data.toList).1=ds at *
   go_wp2_with (refine app_S ?_ (.tmp 29) (.tmp 33) ?_ w.heap.size u5 ds y wr.heap.size ?_ ?_ ?_ ?_ ?_ ?_ ?_;rfl;rfl;rfl;exact (hown.alloc _);rfl;exact (heap_alloc_new _ _);exact q5;exact (Nat.le_trans hsz (by simp));intro g7 cap w7 hown7 hgr7 hb7)
   have hbx:Below w.heap.size w w7:=by
    refine Below.trans ?_ hb7
    (repeat (first | exact hb | exact Below.refl _ _ | (with_reducible refine Below.drew ?_) | (with_reducible refine Below.drewN ?_ _) | (with_reducible refine Below.alloc ?_ ?_ _) | (with_reducible refine Below.setCell ?_ ?_ _) | (show _<=_;focus (first | omega | (simp;done) | (simp;omega)))))
   go_wp2_with fail
   go_ret
   exact ⟨_,rfl,by rw [HV.out];simpa using hown7,hbx⟩
end
end Go.Proofs.YthpccmkagikhjaaGreatDoor

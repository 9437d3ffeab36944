import Derived.Test.YthpccmkagikhjaaGreatDoorQReadJournal2
import Derived.Test.YthpccmkagikhjaaGreatDoorQReadJournal6
import Derived.Test.YthpccmkagikhjaaGreatDoorQReadJournal8
import Derived.Test.YthpccmkagikhjaaGreatDoorQReadJournal10
import Derived.Test.YthpccmkagikhjaaGreatDoorQReadJournal11
import Derived.Test.YthpccmkagikhjaaGreatDoorQReadJournal12
import Derived.Test.YthpccmkagikhjaaGreatDoorQReadJournal13
import Derived.Test.YthpccmkagikhjaaGreatDoorQReadJournal20
import Derived.Test.YthpccmkagikhjaaGreatDoorQReadJournal22
import Derived.Test.YthpccmkagikhjaaGreatDoorQReadJournal23
import Derived.Deep.CutRange
namespace Go.Proofs.YthpccmkagikhjaaGreatDoor
set_option linter.unusedVariables false
open Go.RowKit
set_option maxRecDepth 8000
set_option maxHeartbeats 8000000
section
attribute [local go_sem ↓] Go.wp_at_zero Go.wp_at_succ
theorem c_line12No (D:KV) (vn vp:Value) (s:List UInt8) (w:World) (hK:Ks w w.heap.size vn vp D) (hs:SmallK D) (ho:deskOk D=false) :
  Calls Tryz.prog 14 #[.agg #[vn,vp],.string (bs s)] w (LineP D s w):=by
 have HD:=Lib.hid (fun (W:World) (hb:Below w.heap.size w W)=>c_iDeskOk D vn vp W ((hK.below hb).more hb.size) hs)
 obtain ⟨⟨An,cn,rfl,hcn,hN⟩,Ap,cp,rfl,hcp,hP⟩:=hK
 obtain ⟨w0,hw0,hz0,hb0,bR,hS⟩:=two_boxes w (.slice An D.now.length cn) (.slice Ap D.past.length cp)
 have hle0:w.heap.size+2<=w0.heap.size:=by omega
 obtain ⟨c0,c1⟩:=hS _ (Below.refl _ w0)
 have HV:=Lib.hid (line_no (s:=s) ho)
 have H:=Lib.hid ho
 clear hN hP hs hS hz0 ho
 go_enter Tryz.func14,Tryz.ntmps14
 go_wp2_with fail
 refine (HD.out _ hb0).mono ?_
 rintro e w1 ⟨rfl,hb1⟩
 rw [H.out]
 have b2:=(hb1.block (w.heap.size+1) (by omega)).trans bR
 obtain ⟨r0,r1,f0,f1⟩:=resBox b2
 clear c0 c1 hw0
 go_wp2_with fail
 obtain ⟨k0,k1⟩:=put2 (.slice none 0 0) (.slice none 0 0) b2
 refine bodyPost_ret (v:=.tuple #[.agg #[.slice none 0 0,.slice none 0 0],.string (bs [])]) (by simp [results,Tryz.f14,go_sem,k0,k1];rfl) rfl ?_
 exact ⟨_,_,[],by rw [HV.out],by rw [HV.out];exact KO.zero _ _,below_put (hb0.trans (hb1.mono (by omega))) _ _ (by omega)⟩
theorem c_line12Deed (D:KV) (vn vp:Value) (s:List UInt8) (w:World) (hK:Ks w w.heap.size vn vp D) (ho:deskOk D=true) (hl:s.length<=100000000) (hV:LV w w.heap.size) (dk da db:Int) (hrd:readD s=some ⟨dk,da,db⟩) :
  Calls Tryz.prog 14 #[.agg #[vn,vp],.string (bs s)] w (LineP D s w):=by
 have hs:=small_ok ho
 have HVd:=Lib.hid (line_deed ho hrd)
 have HD:=Lib.hid (fun (W:World) (hb:Below w.heap.size w W)=>c_iDeskOk D vn vp W ((hK.below hb).more hb.size) hs)
 have HRd:=Lib.hid (fun (W:World) (hb:Below w.heap.size w W)=>c_iReadDeed s hl W (hV.at hb))
 rw [hrd] at HRd
 have HDo:=Lib.hid (fun (W:World) (hb:Below w.heap.size w W)=>c_after12 D vn vp dk da db W ((hK.below hb).more hb.size) ho)
 obtain ⟨⟨An,cn,rfl,hcn,hN⟩,Ap,cp,rfl,hcp,hP⟩:=hK
 obtain ⟨w0,hw0,hz0,hb0,bR,hS⟩:=two_boxes w (.slice An D.now.length cn) (.slice Ap D.past.length cp)
 have hle0:w.heap.size+2<=w0.heap.size:=by omega
 have HS:=Lib.hid (fun (W:World) (hb:Below w0.heap.size w0 W)=>hS W (hb.mono (by omega)))
 have HB0:=Lib.hid (fun (W:World) (h:Below w0.heap.size w0 W)=>hb0.trans (h.mono (show w.heap.size<=w0.heap.size by omega)))
 have HR:=Lib.hid (fun (W:World) (h:Below w0.heap.size w0 W)=>(h.block (w.heap.size+1) (by omega)).trans bR)
 obtain ⟨c0,c1⟩:=HS.out _ (Below.refl _ w0)
 have H:=Lib.hid ho
 clear hN hP hs hS bR hz0 ho hrd hV
 cases hdo:(deskDo D ⟨dk,da,db⟩).2 with
 | true =>
  have HV:=Lib.hid (show deskLine D s=((deskDo D ⟨dk,da,db⟩).1,wOk) by rw [HVd.out,hdo];rfl)
  have HDn:=Lib.hid hdo
  clear hdo
  go_enter Tryz.func14,Tryz.ntmps14
  go_wp2_with fail
  refine (HD.out _ hb0).mono ?_
  rintro e w1 ⟨rfl,hb1⟩
  rw [H.out]
  clear c0 c1 hw0
  go_wp2_with fail
  refine (HRd.out _ (HB0.out _ hb1)).mono ?_
  rintro e w2 ⟨rfl,hb2⟩
  simp only [readV]
  have hx2:=hb1.trans (hb2.mono hb1.size)
  obtain ⟨w3,hw3⟩:∃ w3,w2.alloc (.cells #[.int .i64 dk,.int .i64 da,.int .i64 db] 39)=w3:=⟨_,rfl⟩
  have hx3:Below w0.heap.size w0 w3:=by rw [<- hw3];exact hx2.alloc hx2.size _
  have bN:w3.heap[w2.heap.size]?=some (.cells #[.int .i64 dk,.int .i64 da,.int .i64 db] 39 (0,0)):=by rw [<- hw3];exact heap_alloc_new _ _
  have n0:=cell_of_row _ w2.heap.size 0 _ _ _ bN
  have n1:=cell_of_row _ w2.heap.size 1 _ _ _ bN
  have n2:=cell_of_row _ w2.heap.size 2 _ _ _ bN
  obtain ⟨d0,d1⟩:=HS.out _ hx3
  clear bN
  go_wp2_with fail
  refine (HDo.out _ (HB0.out _ hx3)).mono ?_
  rintro e w4 ⟨un,up,us,rfl,ko,hb4⟩
  obtain ⟨A5,c5,A6,c6,rfl,rfl⟩:=ko.slices
  rw [HDn.out]
  generalize (deskDo D ⟨dk,da,db⟩).1=M at *
  have hx4:=hx3.trans (hb4.mono hx3.size)
  obtain ⟨w5,hw5⟩:∃ w5,w4.alloc (.cells #[.slice A5 M.now.length c5,.slice A6 M.past.length c6] 31)=w5:=⟨_,rfl⟩
  have hx5:Below w0.heap.size w0 w5:=by rw [<- hw5];exact hx4.alloc hx4.size _
  have bM:w5.heap[w4.heap.size]?=some (.cells #[.slice A5 M.now.length c5,.slice A6 M.past.length c6] 31 (0,0)):=by rw [<- hw5];exact heap_alloc_new _ _
  have m0:=cell_of_row _ w4.heap.size 0 _ _ _ bM
  have m1:=cell_of_row _ w4.heap.size 1 _ _ _ bM
  have b5:=HR.out _ hx5
  obtain ⟨r0,r1,f0,f1⟩:=resBox b5
  have HK:Hid (KO w5 w3.heap.size (.slice A5 M.now.length c5) (.slice A6 M.past.length c6) M us):=Lib.hid (by rw [<- hw5];exact ko.below ((Below.refl w4.heap.size w4).alloc (Nat.le_refl _) _) (Nat.le_refl _))
  have hz3:=hx3.size
  have HX:=Lib.hid (HB0.out _ hx5)
  clear d0 d1 n0 n1 n2 bM ko hw3 hx4 hx2
  go_wp2_with fail
  obtain ⟨k0,k1⟩:=put2 (.slice A5 M.now.length c5) (.slice A6 M.past.length c6) b5
  refine bodyPost_ret (v:=.tuple #[.agg #[.slice A5 M.now.length c5,.slice A6 M.past.length c6],.string (bs wOk)]) (by simp [results,Tryz.f14,go_sem,k0,k1];rfl) rfl ?_
  exact ⟨_,_,us,by rw [HV.out],by rw [HV.out];exact HK.out.putRes _ _ (by omega) (by omega),below_put HX.out _ _ (by omega)⟩
 | false =>
  have HV:=Lib.hid (show deskLine D s=((deskDo D ⟨dk,da,db⟩).1,wNot) by rw [HVd.out,hdo];rfl)
  have HDn:=Lib.hid hdo
  clear hdo
  go_enter Tryz.func14,Tryz.ntmps14
  go_wp2_with fail
  refine (HD.out _ hb0).mono ?_
  rintro e w1 ⟨rfl,hb1⟩
  rw [H.out]
  clear c0 c1 hw0
  go_wp2_with fail
  refine (HRd.out _ (HB0.out _ hb1)).mono ?_
  rintro e w2 ⟨rfl,hb2⟩
  simp only [readV]
  have hx2:=hb1.trans (hb2.mono hb1.size)
  obtain ⟨w3,hw3⟩:∃ w3,w2.alloc (.cells #[.int .i64 dk,.int .i64 da,.int .i64 db] 39)=w3:=⟨_,rfl⟩
  have hx3:Below w0.heap.size w0 w3:=by rw [<- hw3];exact hx2.alloc hx2.size _
  have bN:w3.heap[w2.heap.size]?=some (.cells #[.int .i64 dk,.int .i64 da,.int .i64 db] 39 (0,0)):=by rw [<- hw3];exact heap_alloc_new _ _
  have n0:=cell_of_row _ w2.heap.size 0 _ _ _ bN
  have n1:=cell_of_row _ w2.heap.size 1 _ _ _ bN
  have n2:=cell_of_row _ w2.heap.size 2 _ _ _ bN
  obtain ⟨d0,d1⟩:=HS.out _ hx3
  clear bN
  go_wp2_with fail
  refine (HDo.out _ (HB0.out _ hx3)).mono ?_
  rintro e w4 ⟨un,up,us,rfl,ko,hb4⟩
  obtain ⟨A5,c5,A6,c6,rfl,rfl⟩:=ko.slices
  rw [HDn.out]
  generalize (deskDo D ⟨dk,da,db⟩).1=M at *
  have hx4:=hx3.trans (hb4.mono hx3.size)
  obtain ⟨w5,hw5⟩:∃ w5,w4.alloc (.cells #[.slice A5 M.now.length c5,.slice A6 M.past.length c6] 31)=w5:=⟨_,rfl⟩
  have hx5:Below w0.heap.size w0 w5:=by rw [<- hw5];exact hx4.alloc hx4.size _
  have bM:w5.heap[w4.heap.size]?=some (.cells #[.slice A5 M.now.length c5,.slice A6 M.past.length c6] 31 (0,0)):=by rw [<- hw5];exact heap_alloc_new _ _
  have m0:=cell_of_row _ w4.heap.size 0 _ _ _ bM
  have m1:=cell_of_row _ w4.heap.size 1 _ _ _ bM
  have b5:=HR.out _ hx5
  obtain ⟨r0,r1,f0,f1⟩:=resBox b5
  have HK:Hid (KO w5 w3.heap.size (.slice A5 M.now.length c5) (.slice A6 M.past.length c6) M us):=Lib.hid (by rw [<- hw5];exact ko.below ((Below.refl w4.heap.size w4).alloc (Nat.le_refl _) _) (Nat.le_refl _))
  have hz3:=hx3.size
  have HX:=Lib.hid (HB0.out _ hx5)
  clear d0 d1 n0 n1 n2 bM ko hw3 hx4 hx2
  go_wp2_with fail
  obtain ⟨k0,k1⟩:=put2 (.slice A5 M.now.length c5) (.slice A6 M.past.length c6) b5
  refine bodyPost_ret (v:=.tuple #[.agg #[.slice A5 M.now.length c5,.slice A6 M.past.length c6],.string (bs wNot)]) (by simp [results,Tryz.f14,go_sem,k0,k1];rfl) rfl ?_
  exact ⟨_,_,us,by rw [HV.out],by rw [HV.out];exact HK.out.putRes _ _ (by omega) (by omega),below_put HX.out _ _ (by omega)⟩
theorem c_line12Ask (D:KV) (vn vp:Value) (s:List UInt8) (w:World) (hK:Ks w w.heap.size vn vp D) (ho:deskOk D=true) (hl:s.length<=100000000) (hV:LV w w.heap.size) (hrd:readD s=none) :
  Calls Tryz.prog 14 #[.agg #[vn,vp],.string (bs s)] w (LineP D s w):=by
 have hs:=small_ok ho
 have HV:=Lib.hid (line_ask ho hrd)
 have HD:=Lib.hid (fun (W:World) (hb:Below w.heap.size w W)=>c_iDeskOk D vn vp W ((hK.below hb).more hb.size) hs)
 have HRd:=Lib.hid (fun (W:World) (hb:Below w.heap.size w W)=>c_iReadDeed s hl W (hV.at hb))
 rw [hrd] at HRd
 have HCp:=Lib.hid (fun (W:World) (hb:Below w.heap.size w W)=>c_copied D vn vp W ((hK.below hb).more hb.size) hs)
 have HAn:=Lib.hid (fun (W:World) (hb:Below w.heap.size w W)=>c_answer D vn vp s W ((hK.below hb).more hb.size) ho hl (hV.at hb))
 obtain ⟨⟨An,cn,rfl,hcn,hN⟩,Ap,cp,rfl,hcp,hP⟩:=hK
 obtain ⟨w0,hw0,hz0,hb0,bR,hS⟩:=two_boxes w (.slice An D.now.length cn) (.slice Ap D.past.length cp)
 have hle0:w.heap.size+2<=w0.heap.size:=by omega
 have HS:=Lib.hid hS
 have HB0:=Lib.hid (fun (W:World) (h:Below w0.heap.size w0 W)=>hb0.trans (h.mono (show w.heap.size<=w0.heap.size by omega)))
 have HR:=Lib.hid (fun (W:World) (h:Below w0.heap.size w0 W)=>(h.block (w.heap.size+1) (by omega)).trans bR)
 obtain ⟨c0,c1⟩:=HS.out _ (Below.refl _ w0)
 have H:=Lib.hid ho
 clear hN hP hs hS bR hz0 ho hrd hV
 go_enter Tryz.func14,Tryz.ntmps14
 go_wp2_with fail
 refine (HD.out _ hb0).mono ?_
 rintro e w1 ⟨rfl,hb1⟩
 rw [H.out]
 clear c0 c1 hw0
 go_wp2_with fail
 refine (HRd.out _ (HB0.out _ hb1)).mono ?_
 rintro e w2 ⟨rfl,hb2⟩
 simp only [readV]
 have hx2:=hb1.trans (hb2.mono hb1.size)
 go_wp2_with fail
 have hx3:Below w0.heap.size w0 (w2.alloc (.cells #[.int .i64 0,.int .i64 0,.int .i64 0] 39)):=hx2.alloc hx2.size _
 generalize w2.alloc (.cells #[.int .i64 0,.int .i64 0,.int .i64 0] 39)=w3 at *
 have hx3d:Below w0.heap.size w0 w3.drew:=hx3.drew
 obtain ⟨d0,d1⟩:=HS.out _ (hx3.mono (by omega))
 go_region_held3 (fun W=>W.cell? ⟨w.heap.size,0,none⟩=some (.slice An D.now.length cn)∧W.cell? ⟨w.heap.size,1,none⟩=some (.slice Ap D.past.length cp))
  (first
    | exact HS.out _ hy7
    | exact HS.out _ (hx6.mono (by omega))
    | exact HS.out _ (hx5.mono (by omega))
    | go_keep)
  (first
    | (go_at_call 50;refine (HCp.out _ (HB0.out _ hx3d)).mono ?_;rintro e w5 ⟨un,up,us,rfl,ko,hb5⟩;obtain ⟨A5,c5,A6,c6,rfl,rfl⟩:=ko.slices;have hx5:Below w0.heap.size w0 w5:=hx3d.trans (hb5.mono hx3d.size))
    | (go_at_call 51;refine (HAn.out w5 (HB0.out _ hx5)).mono ?_;rintro e w6 ⟨rfl,hb6⟩;have hz5:=hx5.size;have hx6:Below w0.heap.size w0 w6:=hx5.trans (hb6.mono hz5);have b6:=HR.out _ hx6;obtain ⟨r0,r1,f0,f1⟩:=resBox b6;have hy7:=below_put (hx6.mono (show w.heap.size+1<=w0.heap.size by omega)) (.slice A5 D.now.length c5) (.slice A6 D.past.length c6) (Nat.le_refl (w.heap.size+1)))
    | fail)
 have HK:=Lib.hid (ko.below hb6 (Nat.le_refl _))
 have hz3:=hx3d.size
 have HB:=Lib.hid hy7
 clear ko hy7 hx6 hx5
 go_wp2_with fail
 obtain ⟨k0,k1⟩:=put2 (.slice A5 D.now.length c5) (.slice A6 D.past.length c6) b6
 refine bodyPost_ret (v:=.tuple #[.agg #[.slice A5 D.now.length c5,.slice A6 D.past.length c6],.string (bs (askL D.now s))]) (by simp [results,Tryz.f14,go_sem,k0,k1]) rfl ?_
 exact ⟨_,_,us,by rw [HV.out],by rw [HV.out];exact HK.out.putRes _ _ (by omega) (by omega),hb0.trans (HB.out.mono (by omega))⟩
theorem c_iDeskLine (D:KV) (vn vp:Value) (s:List UInt8) (w:World) (hK:Ks w w.heap.size vn vp D) (hs:SmallK D) (hl:s.length<=100000000) (hV:LV w w.heap.size) :
  Calls Tryz.prog 14 #[.agg #[vn,vp],.string (bs s)] w (LineP D s w):=by
 cases ho:deskOk D with
 | false=>exact c_line12No D vn vp s w hK hs ho
 | true =>
  cases hrd:readD s with
  | some d=>exact c_line12Deed D vn vp s w hK ho hl hV d.k d.a d.b hrd
  | none=>exact c_line12Ask D vn vp s w hK ho hl hV hrd
end
section
attribute [local go_sem ↓] Go.wp_at_zero Go.wp_at_succ
theorem laidK (w:World) (x y:Value):∃ w',w.alloc (.cells #[x,y] 31)=w'∧w'.heap.size=w.heap.size+1∧Below w.heap.size w w'∧∀ W,Below w'.heap.size w' W->(W.cell? ⟨w.heap.size,0,none⟩=some x∧W.cell? ⟨w.heap.size,1,none⟩=some y):=by
 refine ⟨_,rfl,by simp,(Below.refl _ w).alloc (Nat.le_refl _) _,fun W hb=>?_⟩
 have h:=(hb.block w.heap.size (by simp)).trans (heap_alloc_new w (.cells #[x,y] 31))
 exact ⟨cell_of_row _ _ 0 _ _ _ h,cell_of_row _ _ 1 _ _ _ h⟩
theorem Ks.up7 {w W:World} {vn vp:Value} {D:KV} (h:Ks w w.heap.size vn vp D) (hb:Below w.heap.size w W):Ks W W.heap.size vn vp D:=(h.below hb).more hb.size
end
section
attribute [local go_sem ↓] Go.wp_at_zero Go.wp_at_succ
theorem Ds3.take7 {w:World} {B:Nat} {A:Option Addr} {L:List DV} (h:Ds3 w B A L) (m:Nat):Ds3 w B A (L.take m):=by
 intro hn
 rw [List.length_take] at hn
 obtain ⟨b,off,rfl,hlt,hc⟩:=h (by omega)
 refine ⟨b,off,rfl,hlt,fun k hk=>?_⟩
 rw [List.length_take] at hk
 have e:ZD (L.take m) k=ZD L k:=by simp [ZD,List.getD_eq_getElem?_getD,List.getElem?_take_of_lt (show k < m by omega)]
 rw [e]
 exact hc k (by omega)
theorem jS_few (T:List UInt8):(jS T).ds.length<=T.length:=by
 obtain ⟨h1,h2,h3,-,-⟩:=jS_inv T
 have:∀ L:List DV,L.length<=(jTo L).length:=by
  intro L
  induction L with
  | nil=>simp
  | cons d L ih=>simp only [jTo,List.flatMap_cons,List.length_append,List.length_cons,List.length_nil] at ih ⊢;omega
 have:=this (jS T).ds
 omega
theorem line_step {D:KV} {ds:List DV} {k:Nat} (h:deskOk D=true) (hj:jOk ds=true) (hk:k < ds.length) :
  (deskLine (runTo D (ds.take k)).1 (deedL (ZD ds k))).1=(runTo D (ds.take (k+1))).1∧((deskLine (runTo D (ds.take k)).1 (deedL (ZD ds k))).2=wOk∨(deskLine (runTo D (ds.take k)).1 (deedL (ZD ds k))).2=wNot):=by
 have e:ds.take (k+1)=ds.take k++[ZD ds k]:=by rw [List.take_succ_eq_append_getElem hk];simp [ZD,hk]
 have hne:deedL (ZD ds k)≠[]:=by
  rw [jOk,List.all_eq_true] at hj
  have:=hj (ZD ds k) (by simp [ZD,hk])
  simpa using this
 have:=line_text (runTo_ok h (ds.take k)) hne
 rw [e,runTo_append]
 exact this
theorem runTo_small {D:KV} (h:deskOk D=true) (L:List DV):SmallK (runTo D L).1:=small_ok (runTo_ok h L)
theorem w_FnReadJournal (A:Option Addr) (n c:Nat) (B:Option Addr) (m d:Nat) (w:World) (h:Bs w w.heap.size A n) (hc:n<=c) (h2:Bs w w.heap.size B m) (hd:m<=d) (hV:LV w w.heap.size) :
  Calls Tryz.prog 3 #[.slice A n c,.slice B m d] w fun e w'=>e=.returned (.bool true)∧Below w.heap.size w w':=by
 by_cases hn:n<=1048576
 ·by_cases hm:m<=1048576
  ·have hn':¬ (1048576:Int) < (n:Int):=by omega
   have hm':¬ (1048576:Int) < (m:Int):=by omega
   go_enter Tryz.func3,Tryz.ntmps3
   go_wp2_with fail
   refine (c_DrawReadJournal A n c _ h hn hc).mono ?_
   rintro e w1 ⟨s,rfl,hs,hb1⟩
   have hs1:=hb1.size
   have HB:=Lib.hid (fun W (hb:Below w.heap.size w W)=>h2.upto hb hb.size)
   have hlen:s.data.toList.length=s.size:=Array.length_toList
   have HVV:=Lib.hid hV
   have HI:=Lib.hid (c_iReadJournal s (by omega) w1 (hV.at hb1))
   have HS:=Lib.hid (fun W=>c_sReadJournal s (by omega) W)
   have HX:=Lib.hid (fun k=>show s.extract 0 k=bs (s.data.toList.take k) by rw [extract_bs];rfl)
   have HK:=Lib.hid (fun k (hk:k<=s.size) W (hW:LV W W.heap.size)=>show Calls Tryz.prog 9 #[.string (bs (s.data.toList.take k))] W fun e w'=>∃ v,e=.returned (.tuple #[v,.int .i64 ((jS (s.data.toList.take k)).n:Int)])∧EO w' W.heap.size v (jS (s.data.toList.take k)).ds∧Below W.heap.size W w' from by
    have K:=c_iReadJournal (bs (s.data.toList.take k)) (by rw [bs_size,List.length_take];omega) W hW
    have e:(bs (s.data.toList.take k)).data.toList=s.data.toList.take k:=rfl
    rw [e] at K
    exact K)
   have HC:=Lib.hid (fun k=>jS_cut s.data.toList k)
   have HV:=Lib.hid (jS_inv s.data.toList)
   have HL:=Lib.hid (show (jS s.data.toList).ds.length<=200 by have:=jS_few s.data.toList;omega)
   generalize s.data.toList=T at *
   clear h h2 hV
   go_wp2_with fail
   refine HI.out.mono ?_
   rintro e w2 ⟨v,rfl,o2,hb2⟩
   obtain ⟨E,ec,rfl,hec,-,hE⟩:=o2.form
   have hs2:=hb2.size
   go_wp2_with fail
   refine (HS.out _).mono ?_
   rintro e w3 ⟨v3,rfl,o3,hb3⟩
   obtain ⟨M,mc,rfl,hmc,-,hM⟩:=o3.form
   have hs3:=hb3.size
   have e3:=(hE.below hb3).more hb3.size
   have hx3:=hb1.trans ((hb2.trans (hb3.mono hs2)).mono hs1)
   have HSD:=Lib.hid (show Calls Tryz.prog 11 #[.slice E (jS T).ds.length ec,.slice M (jS T).ds.length mc] w3 fun e w'=>e=.returned (.bool true)∧Below w3.heap.size w3 w' from by
    have K:=c_sameDeeds (jS T).ds (jS T).ds E M _ _ ec mc w3 e3 hM (by have:=HL.out;omega) (by have:=HL.out;omega)
    rw [decide_eq_true (rfl:(jS T).ds=(jS T).ds)] at K
    exact K)
   have hne:(((jS T).n:Int) != ((jS T).n:Int))=false:=by simp
   clear o2 o3 hE hM hb1 hb2 hb3
   go_wp2_with fail
   refine HSD.out.mono ?_
   rintro e w4 ⟨rfl,hb4⟩
   have hx4:=hx3.trans (hb4.mono hx3.size)
   have e4:=(e3.below hb4).more hb4.size
   clear HSD e3 hb4 hx3
   have HX4:=Lib.hid hx4
   have HE4:=Lib.hid (fun W (hb:Below w4.heap.size w4 W)=>(e4.below hb).more hb.size)
   clear hx4 e4
   go_wp2_with fail
   go_loopw [10] (fun kv wr=>∃ k:Nat,kv=.int .i64 (k:Int)∧k<=s.size+1∧Below w4.heap.size w4 wr) (fun kv _=>s.size+1 - (intOf kv).toNat)
   case atStart=>exact ⟨0,rfl,by omega,Below.refl _ _⟩
   case round =>
    obtain ⟨k,rfl,hk,hbr⟩:=hrel
    by_cases hks:k<=s.size
    ·have p1:(0:Int)<=(k:Int):=by omega
     have p2:(k:Int)<=(s.size:Int):=by omega
     have hx:=HX.out k
     have hcut:=HC.out k
     have hll:=hcut.1.length_le
     have HKk:=Lib.hid (HK.out k hks wr (HVV.out.at (HX4.out.trans (hbr.mono HX4.out.size))))
     have hpre:(jS T).ds.take (jS (T.take k)).ds.length=(jS (T.take k)).ds:=List.prefix_iff_eq_take.1 hcut.1 |>.symm
     have hnk:=hcut.2
     go_wp2_with fail
     refine HKk.out.mono ?_
     rintro e w5 ⟨v5,rfl,o5,hb5⟩
     obtain ⟨X,xc,rfl,hxc,-,hXs⟩:=o5.form
     have hb45:=hbr.trans (hb5.mono hbr.size)
     have g1:¬ ((jS T).ds.length:Int) < ((jS (T.take k)).ds.length:Int):=by omega
     have g2:¬ (k:Int) < ((jS (T.take k)).n:Int):=by omega
     have g3:((jS (T.take k)).ds.length:Int)<=(ec:Int):=by omega
     have gm:min ((jS (T.take k)).ds.length:Int) ((jS T).ds.length:Int)=((jS (T.take k)).ds.length:Int):=by omega
     have g4:((jS (T.take k)).ds.length:Int)<=((jS T).ds.length:Int):=by omega
     have HQ:=Lib.hid (show Calls Tryz.prog 11 #[.slice X (jS (T.take k)).ds.length xc,.slice E (jS (T.take k)).ds.length ec] w5 fun e w'=>e=.returned (.bool true)∧Below w5.heap.size w5 w' from by
      have K:=c_sameDeeds (jS (T.take k)).ds ((jS T).ds.take (jS (T.take k)).ds.length) X E _ _ xc ec w5 hXs ((HE4.out _ hb45).take7 _) (by have:=HL.out;omega) (by rw [hpre];have:=HL.out;omega)
      rw [hpre,decide_eq_true (rfl:(jS (T.take k)).ds=(jS (T.take k)).ds)] at K
      exact K)
     clear hx hcut hpre HKk o5 hXs hb5 hbr
     generalize (jS (T.take k)).ds.length=lx at *
     generalize (jS (T.take k)).n=nx at *
     go_wp2_with fail
     refine HQ.out.mono ?_
     rintro e w6 ⟨rfl,hb6⟩
     go_wp2_with fail
     go_roundw
     case rel=>exact ⟨k+1,by go_num,by omega,hb45.trans (hb6.mono hb45.size)⟩
     case measure=>simp [intOf];omega
    ·have p2:¬ (k:Int)<=(s.size:Int):=by omega
     go_wp2_with fail
     have hxr:=HX4.out.trans (hbr.mono HX4.out.size)
     have HER:=Lib.hid (fun W (hb:Below wr.heap.size wr W)=>HE4.out W (hbr.trans (hb.mono hbr.size)))
     clear hbr
     refine (c_DrawDeskRun B m d _ (HB.out _ hxr) hm hd).mono ?_
     rintro e w7 ⟨vn,vp,D,v7,ds7,rfl,hD,-,-,hb7⟩
     obtain ⟨X1,x1,X2,x2,rfl,rfl⟩:=hD.now.slices
     have hsm:=hD.small
     obtain ⟨w8,hw8,hz8,hb8,HC8⟩:=laidK w7 (.slice X1 D.now.length x1) (.slice X2 D.past.length x2)
     obtain ⟨w9,hw9⟩:∃ z,w8.alloc (.cells #[.slice X1 D.now.length x1,.slice X2 D.past.length x2] 31)=z:=⟨_,rfl⟩
     have hb9:Below w8.heap.size w8 w9:=by rw [<- hw9];exact (Below.refl _ w8).alloc (Nat.le_refl _) _
     have b9:w9.heap[w8.heap.size]?=some (.cells #[.slice X1 D.now.length x1,.slice X2 D.past.length x2] 31 (0,0)):=by rw [<- hw9];exact heap_alloc_new _ _
     have hz9:w8.heap.size < w9.heap.size:=by rw [<- hw9];simp
     have hz8l:w7.heap.size < w8.heap.size:=by omega
     obtain ⟨q0,q1⟩:=HC8 _ (Below.refl _ w8)
     clear hz8
     have HB8:=Lib.hid (fun W (hg:w9.grownBy W (some w8.heap.size))=>hb9.trans (below_grown hg (Nat.le_refl w8.heap.size) (Nat.le_of_lt hz9)))
     have HB7:=Lib.hid (fun W (hg:w9.grownBy W (some w8.heap.size))=>hb8.trans ((HB8.out W hg).mono (Nat.le_of_lt hz8l)))
     have HCd:=Lib.hid (fun W hg=>HC8 W (HB8.out W hg))
     have HKd:=Lib.hid (fun W hg=>hD.now.up7 (HB7.out W hg))
     have HEd:=Lib.hid (fun W hg=>HER.out W (hb7.trans ((HB7.out W hg).mono hb7.size)))
     have HXd:=Lib.hid (fun W hg=>hxr.trans ((hb7.trans ((HB7.out W hg).mono hb7.size)).mono hxr.size))
     clear HC8 hb8 hb9 hxr hb7 hD HER HE4 HX4
     go_wp2_with fail
     clear hw8 hw9 q0 q1
     go_loopw [16] (fun kv wr=>∃ (k:Nat) (un up:Value),kv=.int .i64 (k:Int)∧k<=(jS T).ds.length∧(0 < k->deskOk D=true)∧wr.heap[w8.heap.size]?=some (.cells #[un,up] 31 (0,0))∧(∀ W,wr.grownBy W (some w8.heap.size)->Ks W W.heap.size un up (runTo D ((jS T).ds.take k)).1)∧w9.grownBy wr (some w8.heap.size)) (fun kv _=>(jS T).ds.length - (intOf kv).toNat)
     case atStart=>exact ⟨0,_,_,rfl,Nat.zero_le _,fun h=>absurd h (by omega),b9,fun W hg=>HKd.out W hg,World.grownBy.refl _ _⟩
     case round =>
      clear b9
      obtain ⟨k,un,up,rfl,hk,hok,bN,hN,hg⟩:=hrel
      have hszr:=hg.size
      obtain ⟨U1,u1,U2,u2,rfl,rfl⟩:=(hN wr (World.grownBy.refl _ _)).slices
      by_cases hkl:k < (jS T).ds.length
      ·have hkl':(k:Int) < ((jS T).ds.length:Int):=by omega
       obtain ⟨q0,q1⟩:=HCd.out _ hg
       have HOk:=Lib.hid (c_sDeskOk D _ _ wr (HKd.out _ hg) hsm)
       go_wp2_with fail
       refine HOk.out.mono ?_
       rintro e wq ⟨rfl,hbq⟩
       clear q0 q1 HOk
       cases hoD:deskOk D with
       | false =>
        have hgW:w9.grownBy wq (some w8.heap.size):=hg.trans (grown_thenB (World.grownBy.refl _ _) hbq)
        have bW:=(hbq.block w8.heap.size (by omega)).trans bN
        have hNW:=Lib.hid hN
        clear hg bN hN hbq
        obtain ⟨q0,q1⟩:=HCd.out _ hgW
        have HDR:=Lib.hid (c_iDeskRun D (jS T).ds _ _ E ec wq (HKd.out _ hgW) hsm (HEd.out _ hgW) hec (by have:=HL.out;omega))
        go_wp2_with fail
        refine HDR.out.mono ?_
        rintro e w10 ⟨rn,rp,rs,rfl,o10,hb10⟩
        obtain ⟨R1,r1,R2,r2,rfl,rfl⟩:=o10.slices
        obtain ⟨w11,hw11,hz11,hb11,HC11⟩:=laidK w10 (.slice R1 (deskRun D (jS T).ds).1.now.length r1) (.slice R2 (deskRun D (jS T).ds).1.past.length r2)
        have hbT:=hb10.trans (hb11.mono hb10.size)
        have hgT:w9.grownBy w11 (some w8.heap.size):=hgW.trans (grown_thenB (World.grownBy.refl _ _) hbT)
        have hz11l:w10.heap.size < w11.heap.size:=by omega
        have hs11:=hgT.size
        clear hz11 q0 q1 HDR
        have v0:=WB.cell (w:=w11) (B:=w11.heap.size) (show w7.heap.size < w11.heap.size by omega) (HCd.out _ hgT).1
        have v1:=WB.cell (w:=w11) (B:=w11.heap.size) (show w7.heap.size < w11.heap.size by omega) (HCd.out _ hgT).2
        have bT:=(hbT.block w8.heap.size (by have:=hgW.size;omega)).trans bW
        have v2:=WB.cell (w:=w11) (B:=w11.heap.size) (show w8.heap.size < w11.heap.size by omega) (two_at bT).1
        have v3:=WB.cell (w:=w11) (B:=w11.heap.size) (show w8.heap.size < w11.heap.size by omega) (two_at bT).2.1
        have v4:=WB.cell (w:=w11) (B:=w11.heap.size) hz11l (HC11 _ (Below.refl _ _)).1
        have v5:=WB.cell (w:=w11) (B:=w11.heap.size) hz11l (HC11 _ (Below.refl _ _)).2
        have HJ:=Lib.hid (fun V (hb:Below w11.heap.size w11 V)=>show Calls Tryz.prog 17 #[.slice E (jS T).ds.length ec] V fun e w'=>e=.returned (.string (bs (T.take (jS T).n)))∧Below V.heap.size V w' from by
         have K:=c_iJournalText (jS T).ds E ec V (((HEd.out _ hgT).below hb).more hb.size) hec (by have:=HL.out;omega)
         rw [journalL,if_pos HV.out.1,HV.out.2.2.2.1] at K
         exact K)
        have HO:=Lib.hid (fun V (hb:Below w11.heap.size w11 V)=>c_sDeskOk D _ _ V ((HKd.out _ hgT).up7 hb) hsm)
        rw [hoD] at HO
        have HXT:=Lib.hid (HXd.out _ hgT)
        have g1:((jS T).n:Int)<=(s.size:Int):=by have:=HV.out.2.2.1;omega
        have g1d:=decide_eq_true g1
        have g0:(0:Int)<=((jS T).n:Int):=by omega
        have hx:=HX.out (jS T).n
        have hTT:((bs (T.take (jS T).n)).toList == (bs (T.take (jS T).n)).toList)=true:=beq_self_eq_true _
        clear o10 hb10 hb11 HC11 hbT hgT bT bW hNW hgW
        go_wp2_with fail
        refine wp_region_wb w11.heap.size (by kernel_rfl) (by kernel_rfl) ?_
        repeat (go_big_quiet_step ((first | (go_at_call 17;exact Calls.inB (Nat.le_refl _) (HJ.out _ (WB.below _))) | (go_at_call 13;exact Calls.inB (Nat.le_refl _) (HO.out _ (WB.below _))) | (go_at_call 19;exact Calls.inB (Nat.le_refl _) (c_alive _)))))
        refine wpQuiet_nil ?_
        rintro wz ⟨⟨_,hbz⟩,rfl⟩
        clear v0 v1 v2 v3 v4 v5
        go_wp2_with fail
        go_ret
        exact ⟨rfl,HXT.out.trans (hbz.mono HXT.out.size)⟩
       | true =>
        have hgq:w9.grownBy wq (some w8.heap.size):=hg.trans (grown_thenB (World.grownBy.refl _ _) hbq)
        have bq:=(hbq.block w8.heap.size (by omega)).trans bN
        have hszq:w8.heap.size < wq.heap.size:=by have:=hgq.size;omega
        obtain ⟨eb,eo,rfl,helt,hec⟩:=HEd.out wq hgq (by omega)
        have HZc:=Lib.hid (fun W (hb:Below wq.heap.size wq W)=>show (W.cell? ⟨eb,eo+k * 3,none⟩=some (.int .i64 (ZD (jS T).ds k).k)∧W.cell? ⟨eb,eo+k * 3+1,none⟩=some (.int .i64 (ZD (jS T).ds k).a)∧W.cell? ⟨eb,eo+k * 3+2,none⟩=some (.int .i64 (ZD (jS T).ds k).b)) from ⟨(hb.cell (p:=⟨eb,_,none⟩) helt).trans (hec k hkl).1,(hb.cell (p:=⟨eb,_,none⟩) helt).trans (hec k hkl).2.1,(hb.cell (p:=⟨eb,_,none⟩) helt).trans (hec k hkl).2.2⟩)
        have HBc:=Lib.hid (fun W (hb:Below wq.heap.size wq W)=>two_at ((hb.block w8.heap.size hszq).trans bq))
        have HTx:=Lib.hid (fun W=>show Calls Tryz.prog 15 #[.agg #[.int .i64 (ZD (jS T).ds k).k,.int .i64 (ZD (jS T).ds k).a,.int .i64 (ZD (jS T).ds k).b]] W fun e w'=>e=.returned (.string (bs (deedL (ZD (jS T).ds k))))∧Below W.heap.size W w' from c_iDeedText _ _ _ W)
        obtain ⟨hst1,hst2⟩:=line_step hoD HV.out.1 hkl
        have hdl:=deedL_len (ZD (jS T).ds k)
        have HLn:=Lib.hid (fun W (hb:Below wq.heap.size wq W)=>show Calls Tryz.prog 14 #[.agg #[.slice U1 (runTo D ((jS T).ds.take k)).1.now.length u1,.slice U2 (runTo D ((jS T).ds.take k)).1.past.length u2],.string (bs (deedL (ZD (jS T).ds k)))] W fun e w'=>∃ vn vp vs,e=.returned (.tuple #[.agg #[vn,vp],.string (bs (deskLine (runTo D ((jS T).ds.take k)).1 (deedL (ZD (jS T).ds k))).2)])∧KO w' W.heap.size vn vp (runTo D ((jS T).ds.take (k+1))).1 vs∧Below W.heap.size W w' from by
         have hVW:LV W W.heap.size:=HVV.out.at (HXd.out W (hgq.trans (grown_thenB (World.grownBy.refl wq (some w8.heap.size)) hb)))
         refine (c_iDeskLine (runTo D ((jS T).ds.take k)).1 _ _ (deedL (ZD (jS T).ds k)) W (hN W ((grown_thenB (World.grownBy.refl _ _) hbq).trans (grown_thenB (World.grownBy.refl _ _) hb))) (runTo_small hoD _) (by omega) hVW).mono ?_
         rintro e w' ⟨a1,a2,a3,h1,h2,h3⟩
         rw [hst1] at h2
         exact ⟨a1,a2,a3,h1,h2,h3⟩)
        clear hg bN hN hbq hec hdl hst1
        generalize (deskLine (runTo D ((jS T).ds.take k)).1 (deedL (ZD (jS T).ds k))).2=ans at HLn hst2
        generalize deedL (ZD (jS T).ds k)=dl at HLn HTx
        generalize (ZD (jS T).ds k).k=d1 at *
        generalize (ZD (jS T).ds k).a=d2 at *
        generalize (ZD (jS T).ds k).b=d3 at *
        generalize (runTo D ((jS T).ds.take k)).1=N0 at HLn HBc bq
        generalize hNN:(runTo D ((jS T).ds.take (k+1))).1=N at HLn
        have hNN:=Lib.hid hNN
        have hst2:=Lib.hid hst2
        go_upto_region 19 with fail
        go_cut [17,18] from 101 to 110 (fun p17 p18 wy=>∃ (Bx:Nat) (un up:Value) (vs:List Value),p17=.pointer (some ⟨Bx,0,none⟩)∧p18=.string (bs ans)∧wq.heap.size<=Bx∧wy.heap[Bx]?=some (.cells #[un,up] 31 (0,0))∧KO wy wq.heap.size un up N vs∧Below wq.heap.size wq wy)
        case first =>
         obtain ⟨Vd,hVd⟩:∃ z,wq.drew=z:=⟨_,rfl⟩
         have hbVd:Below wq.heap.size wq Vd:=by rw [<- hVd];exact (Below.refl _ wq).drew
         have hzd:=hbVd.size
         obtain ⟨Vz,hVz⟩:∃ z,Vd.alloc (.cells #[.slice none 0 0,.slice none 0 0] 31)=z:=⟨_,rfl⟩
         have hbVz:Below wq.heap.size wq Vz:=by rw [<- hVz];exact hbVd.alloc hbVd.size _
         have hzz:Vd.heap.size < Vz.heap.size:=by rw [<- hVz];simp
         have bz:Vz.heap[Vd.heap.size]?=some (.cells #[.slice none 0 0,.slice none 0 0] 31 (0,0)):=by rw [<- hVz];exact heap_alloc_new _ _
         obtain ⟨m0,m1,-,-⟩:=HBc.out Vd hbVd
         obtain ⟨m2,m3,-,-⟩:=HBc.out Vz hbVz
         obtain ⟨m4,m5,m6⟩:=HZc.out Vd hbVd
         obtain ⟨m7,m8,m9⟩:=HZc.out Vz hbVz
         go_region_with (first
            | (go_at_call 15;(with_reducible refine (HTx.out Vd).mono ?_);rintro e w5 ⟨rfl,hb5⟩;have hx5:Below wq.heap.size wq w5:=hbVd.trans (hb5.mono hbVd.size);obtain ⟨wz,hwz⟩:∃ z,w5.alloc (.cells #[.slice none 0 0,.slice none 0 0] 31)=z:=⟨_,rfl⟩;have hbz5:Below w5.heap.size w5 wz:=(by rw [<- hwz];exact (Below.refl _ w5).alloc (Nat.le_refl _) _);have hxz:Below wq.heap.size wq wz:=hx5.trans (hbz5.mono hx5.size);have bz5:wz.heap[w5.heap.size]?=some (.cells #[.slice none 0 0,.slice none 0 0] 31 (0,0)):=(by rw [<- hwz];exact heap_alloc_new _ _);have hsz5:=hx5.size;have l0:=HBc.out w5 hx5;have l1:=HBc.out wz hxz)
            | (go_at_call 15;(with_reducible refine (HTx.out Vz).mono ?_);rintro e w5e ⟨rfl,hb5e⟩;have hx5e:Below wq.heap.size wq w5e:=hbVz.trans (hb5e.mono hbVz.size);have bz5e:=(hb5e.block Vd.heap.size (by omega)).trans bz;have l0:=HBc.out w5e hx5e)
            | (go_at_call 14;(with_reducible refine (HLn.out w5 hx5).mono ?_);rintro e w6 ⟨yn,yp,ys,rfl,o6,hb6⟩;obtain ⟨U3,u3,U4,u4,rfl,rfl⟩:=o6.slices;have hx6:Below wq.heap.size wq w6:=hx5.trans (hb6.mono hx5.size);obtain ⟨WX,hWX⟩:∃ z,w6.alloc (.cells #[(.slice U3 N.now.length u3),(.slice U4 N.past.length u4)] 31)=z:=⟨_,rfl⟩;have hb7:Below w6.heap.size w6 WX:=(by rw [<- hWX];exact (Below.refl _ w6).alloc (Nat.le_refl _) _);have hX:Below wq.heap.size wq WX:=hx6.trans (hb7.mono hx6.size);have kX:=(o6.below hb7 (Nat.le_refl _)).mono hx5.size;have b7:WX.heap[w6.heap.size]?=some (.cells #[(.slice U3 N.now.length u3),(.slice U4 N.past.length u4)] 31 (0,0)):=(by rw [<- hWX];exact heap_alloc_new _ _);have bX:∃ Bx,Bx=w6.heap.size∧wq.heap.size<=Bx∧WX.heap[Bx]?=some (.cells #[(.slice U3 N.now.length u3),(.slice U4 N.past.length u4)] 31 (0,0)):=⟨_,rfl,hx6.size,b7⟩;have hL7:=HBc.out w6 hx6)
            | (go_at_call 14;(with_reducible refine (HLn.out wz hxz).mono ?_);rintro e w6 ⟨yn,yp,ys,rfl,o6,hb6⟩;obtain ⟨U3,u3,U4,u4,rfl,rfl⟩:=o6.slices;have hx6:Below wq.heap.size wq w6:=hxz.trans (hb6.mono hxz.size);have bx:=(hb6.block w5.heap.size (Array.getElem?_eq_some_iff.1 bz5).1).trans bz5;have x0':=(two_at bx).1;have x1':=(two_at bx).2.1;have z0:=(two_at bx).2.2.1;have z1:=(two_at bx).2.2.2;obtain ⟨Wa,hWa⟩:∃ z,w6.setCell ⟨w5.heap.size,0,none⟩ (.slice U3 N.now.length u3)=z:=⟨_,rfl⟩;obtain ⟨WX,hWX⟩:∃ z,Wa.setCell ⟨w5.heap.size,1,none⟩ (.slice U4 N.past.length u4)=z:=⟨_,rfl⟩;have bxa:Wa.heap[w5.heap.size]?=some (.cells #[(.slice U3 N.now.length u3),.slice none 0 0] 31 (0,0)):=(by rw [<- hWa];exact set2a _ bx);have x2':=(two_at bxa).2.1;have z2:=(two_at bxa).2.2.2;have b7:WX.heap[w5.heap.size]?=some (.cells #[(.slice U3 N.now.length u3),(.slice U4 N.past.length u4)] 31 (0,0)):=(by rw [<- hWX];exact set2b _ bxa);have hgZ:w6.grownBy WX (some w5.heap.size):=(by rw [<- hWX,<- hWa];exact W2_grown _ _ _ _);have hZB:wq.heap.size<=w5.heap.size:=(by omega);have hX:Below wq.heap.size wq WX:=hx6.grown hgZ hx6.size (fun k e=>by cases e;exact hZB);have kX:=(o6.keptLow hgZ (Array.getElem?_eq_some_iff.1 bz5).1).mono hxz.size;have bX:∃ Bx,Bx=w5.heap.size∧wq.heap.size<=Bx∧WX.heap[Bx]?=some (.cells #[(.slice U3 N.now.length u3),(.slice U4 N.past.length u4)] 31 (0,0)):=⟨_,rfl,hZB,b7⟩;have hL7:=HBc.out w6 hx6)
            | (go_at_call 14;(with_reducible refine (HLn.out w5e hx5e).mono ?_);rintro e w6 ⟨yn,yp,ys,rfl,o6,hb6⟩;obtain ⟨U3,u3,U4,u4,rfl,rfl⟩:=o6.slices;have hx6:Below wq.heap.size wq w6:=hx5e.trans (hb6.mono hx5e.size);have bx:=(hb6.block Vd.heap.size (Array.getElem?_eq_some_iff.1 bz5e).1).trans bz5e;have x0':=(two_at bx).1;have x1':=(two_at bx).2.1;have z0:=(two_at bx).2.2.1;have z1:=(two_at bx).2.2.2;obtain ⟨Wa,hWa⟩:∃ z,w6.setCell ⟨Vd.heap.size,0,none⟩ (.slice U3 N.now.length u3)=z:=⟨_,rfl⟩;obtain ⟨WX,hWX⟩:∃ z,Wa.setCell ⟨Vd.heap.size,1,none⟩ (.slice U4 N.past.length u4)=z:=⟨_,rfl⟩;have bxa:Wa.heap[Vd.heap.size]?=some (.cells #[(.slice U3 N.now.length u3),.slice none 0 0] 31 (0,0)):=(by rw [<- hWa];exact set2a _ bx);have x2':=(two_at bxa).2.1;have z2:=(two_at bxa).2.2.2;have b7:WX.heap[Vd.heap.size]?=some (.cells #[(.slice U3 N.now.length u3),(.slice U4 N.past.length u4)] 31 (0,0)):=(by rw [<- hWX];exact set2b _ bxa);have hgZ:w6.grownBy WX (some Vd.heap.size):=(by rw [<- hWX,<- hWa];exact W2_grown _ _ _ _);have hZB:wq.heap.size<=Vd.heap.size:=(by omega);have hX:Below wq.heap.size wq WX:=hx6.grown hgZ hx6.size (fun k e=>by cases e;exact hZB);have kX:=(o6.keptLow hgZ (Array.getElem?_eq_some_iff.1 bz5e).1).mono hx5e.size;have bX:∃ Bx,Bx=Vd.heap.size∧wq.heap.size<=Bx∧WX.heap[Bx]?=some (.cells #[(.slice U3 N.now.length u3),(.slice U4 N.past.length u4)] 31 (0,0)):=⟨_,rfl,hZB,b7⟩;have hL7:=HBc.out w6 hx6))
         all_goals
          obtain ⟨Bx,hBx,hBq,HBx'⟩:=bX
          subst hBx
          try go_wp2_with fail
          go_meet
          case rel=>exact ⟨_,_,_,_,rfl,rfl,hBq,HBx',kX,hX⟩
        case rest =>
         obtain ⟨Bx,un',up',vs',rfl,rfl,hBx,bX,kX,hX⟩:=hcut
         obtain ⟨U3,u3,U4,u4,rfl,rfl⟩:=kX.slices
         have bc:=(hX.block w8.heap.size hszq).trans bq
         obtain ⟨r0,r1,f0,f1⟩:=two_at bc
         obtain ⟨x0,x1',-,-⟩:=two_at bX
         obtain ⟨Wa,hWa⟩:∃ z,wc.setCell ⟨w8.heap.size,0,none⟩ (.slice U3 N.now.length u3)=z:=⟨_,rfl⟩
         obtain ⟨WX,hWX⟩:∃ z,Wa.setCell ⟨w8.heap.size,1,none⟩ (.slice U4 N.past.length u4)=z:=⟨_,rfl⟩
         have ba:Wa.heap[w8.heap.size]?=some (.cells #[(.slice U3 N.now.length u3),.slice U2 N0.past.length u2] 31 (0,0)):=by rw [<- hWa];exact set2a _ bc
         have bw:WX.heap[w8.heap.size]?=some (.cells #[(.slice U3 N.now.length u3),(.slice U4 N.past.length u4)] 31 (0,0)):=by rw [<- hWX];exact set2b _ ba
         obtain ⟨-,s1,-,s3⟩:=two_at ba
         have hgZ:wc.grownBy WX (some w8.heap.size):=by rw [<- hWX,<- hWa];exact W2_grown _ _ _ _
         have hgX:=(hgq.trans (grown_thenB (World.grownBy.refl _ _) hX)).trans hgZ
         have HkX:=Lib.hid (fun W (hW:WX.grownBy W (some w8.heap.size))=>(kX.keptLow (hgZ.trans hW) hszq).ks)
         have hl200:=HL.out
         clear kX hX bc bX hgq
         rcases hst2.out with e | e
         ·have c1:((bs ans).toList != [111,107])=false:=by rw [bs_list,e];rfl
          have c2:(bs ans).toList=[111,107]:=by rw [bs_list,e];rfl
          clear e
          go_wp2_with fail
          go_roundw
          case rel=>exact ⟨k+1,_,_,by go_num,by omega,fun _=>hoD,bw,fun W hW=>by rw [hNN.out];exact HkX.out W hW,hgX⟩
          case measure=>simp [intOf];omega
         ·have c1:((bs ans).toList != [111,107])=true:=by rw [bs_list,e];rfl
          have c2:¬ (bs ans).toList=[111,107]:=by rw [bs_list,e];decide
          have c3:((bs ans).toList != [110,111,116])=false:=by rw [bs_list,e];rfl
          have c4:(bs ans).toList=[110,111,116]:=by rw [bs_list,e];rfl
          clear e
          go_wp2_with fail
          go_roundw
          case rel=>exact ⟨k+1,_,_,by go_num,by omega,fun _=>hoD,bw,fun W hW=>by rw [hNN.out];exact HkX.out W hW,hgX⟩
          case measure=>simp [intOf];omega
      ·obtain rfl:k=(jS T).ds.length:=by omega
       have hkl':¬ ((jS T).ds.length:Int) < ((jS T).ds.length:Int):=by omega
       rw [List.take_length] at hN bN
       have hgW:=hg
       have bW:=bN
       have hNW:=hN
       clear hg bN hN hk hok hkl
       cases hoD:deskOk D with
       | false =>
        obtain ⟨q0,q1⟩:=HCd.out _ hgW
        have HDR:=Lib.hid (c_iDeskRun D (jS T).ds _ _ E ec wr (HKd.out _ hgW) hsm (HEd.out _ hgW) hec (by have:=HL.out;omega))
        go_wp2_with fail
        refine HDR.out.mono ?_
        rintro e w10 ⟨rn,rp,rs,rfl,o10,hb10⟩
        obtain ⟨R1,r1,R2,r2,rfl,rfl⟩:=o10.slices
        obtain ⟨w11,hw11,hz11,hb11,HC11⟩:=laidK w10 (.slice R1 (deskRun D (jS T).ds).1.now.length r1) (.slice R2 (deskRun D (jS T).ds).1.past.length r2)
        have hbT:=hb10.trans (hb11.mono hb10.size)
        have hgT:w9.grownBy w11 (some w8.heap.size):=hgW.trans (grown_thenB (World.grownBy.refl _ _) hbT)
        have hz11l:w10.heap.size < w11.heap.size:=by omega
        have hs11:=hgT.size
        clear hz11 q0 q1 HDR
        have v0:=WB.cell (w:=w11) (B:=w11.heap.size) (show w7.heap.size < w11.heap.size by omega) (HCd.out _ hgT).1
        have v1:=WB.cell (w:=w11) (B:=w11.heap.size) (show w7.heap.size < w11.heap.size by omega) (HCd.out _ hgT).2
        have bT:=(hbT.block w8.heap.size (by have:=hgW.size;omega)).trans bW
        have v2:=WB.cell (w:=w11) (B:=w11.heap.size) (show w8.heap.size < w11.heap.size by omega) (two_at bT).1
        have v3:=WB.cell (w:=w11) (B:=w11.heap.size) (show w8.heap.size < w11.heap.size by omega) (two_at bT).2.1
        have v4:=WB.cell (w:=w11) (B:=w11.heap.size) hz11l (HC11 _ (Below.refl _ _)).1
        have v5:=WB.cell (w:=w11) (B:=w11.heap.size) hz11l (HC11 _ (Below.refl _ _)).2
        have HJ:=Lib.hid (fun V (hb:Below w11.heap.size w11 V)=>show Calls Tryz.prog 17 #[.slice E (jS T).ds.length ec] V fun e w'=>e=.returned (.string (bs (T.take (jS T).n)))∧Below V.heap.size V w' from by
         have K:=c_iJournalText (jS T).ds E ec V (((HEd.out _ hgT).below hb).more hb.size) hec (by have:=HL.out;omega)
         rw [journalL,if_pos HV.out.1,HV.out.2.2.2.1] at K
         exact K)
        have HO:=Lib.hid (fun V (hb:Below w11.heap.size w11 V)=>c_sDeskOk D _ _ V ((HKd.out _ hgT).up7 hb) hsm)
        rw [hoD] at HO
        have HXT:=Lib.hid (HXd.out _ hgT)
        have g1:((jS T).n:Int)<=(s.size:Int):=by have:=HV.out.2.2.1;omega
        have g1d:=decide_eq_true g1
        have g0:(0:Int)<=((jS T).n:Int):=by omega
        have hx:=HX.out (jS T).n
        have hTT:((bs (T.take (jS T).n)).toList == (bs (T.take (jS T).n)).toList)=true:=beq_self_eq_true _
        clear o10 hb10 hb11 HC11 hbT hgT bT bW hNW hgW
        go_wp2_with fail
        refine wp_region_wb w11.heap.size (by kernel_rfl) (by kernel_rfl) ?_
        repeat (go_big_quiet_step ((first | (go_at_call 17;exact Calls.inB (Nat.le_refl _) (HJ.out _ (WB.below _))) | (go_at_call 13;exact Calls.inB (Nat.le_refl _) (HO.out _ (WB.below _))) | (go_at_call 19;exact Calls.inB (Nat.le_refl _) (c_alive _)))))
        refine wpQuiet_nil ?_
        rintro wz ⟨⟨_,hbz⟩,rfl⟩
        clear v0 v1 v2 v3 v4 v5
        go_wp2_with fail
        go_ret
        exact ⟨rfl,HXT.out.trans (hbz.mono HXT.out.size)⟩
       | true =>
        by_cases h40:(jS T).ds.length<=40
        ·obtain ⟨q0,q1⟩:=HCd.out _ hgW
         have HDR:=Lib.hid (c_iDeskRun D (jS T).ds _ _ E ec wr (HKd.out _ hgW) hsm (HEd.out _ hgW) hec (by have:=HL.out;omega))
         go_wp2_with fail
         refine HDR.out.mono ?_
         rintro e w10 ⟨rn,rp,rs,rfl,o10,hb10⟩
         obtain ⟨R1,r1,R2,r2,rfl,rfl⟩:=o10.slices
         obtain ⟨w11,hw11,hz11,hb11,HC11⟩:=laidK w10 (.slice R1 (deskRun D (jS T).ds).1.now.length r1) (.slice R2 (deskRun D (jS T).ds).1.past.length r2)
         have hbT:=hb10.trans (hb11.mono hb10.size)
         have hgT:w9.grownBy w11 (some w8.heap.size):=hgW.trans (grown_thenB (World.grownBy.refl _ _) hbT)
         have hz11l:w10.heap.size < w11.heap.size:=by omega
         have hs11:=hgT.size
         clear hz11 q0 q1 HDR
         have v0:=WB.cell (w:=w11) (B:=w11.heap.size) (show w7.heap.size < w11.heap.size by omega) (HCd.out _ hgT).1
         have v1:=WB.cell (w:=w11) (B:=w11.heap.size) (show w7.heap.size < w11.heap.size by omega) (HCd.out _ hgT).2
         have bT:=(hbT.block w8.heap.size (by have:=hgW.size;omega)).trans bW
         have v2:=WB.cell (w:=w11) (B:=w11.heap.size) (show w8.heap.size < w11.heap.size by omega) (two_at bT).1
         have v3:=WB.cell (w:=w11) (B:=w11.heap.size) (show w8.heap.size < w11.heap.size by omega) (two_at bT).2.1
         have v4:=WB.cell (w:=w11) (B:=w11.heap.size) hz11l (HC11 _ (Below.refl _ _)).1
         have v5:=WB.cell (w:=w11) (B:=w11.heap.size) hz11l (HC11 _ (Below.refl _ _)).2
         have HJ:=Lib.hid (fun V (hb:Below w11.heap.size w11 V)=>show Calls Tryz.prog 17 #[.slice E (jS T).ds.length ec] V fun e w'=>e=.returned (.string (bs (T.take (jS T).n)))∧Below V.heap.size V w' from by
          have K:=c_iJournalText (jS T).ds E ec V (((HEd.out _ hgT).below hb).more hb.size) hec (by have:=HL.out;omega)
          rw [journalL,if_pos HV.out.1,HV.out.2.2.2.1] at K
          exact K)
         have HO:=Lib.hid (fun V (hb:Below w11.heap.size w11 V)=>c_sDeskOk D _ _ V ((HKd.out _ hgT).up7 hb) hsm)
         rw [hoD] at HO
         have HSm:=Lib.hid (fun V (hb:Below w11.heap.size w11 V)=>show Calls Tryz.prog 18 #[.agg #[.slice U1 (runTo D (jS T).ds).1.now.length u1,.slice U2 (runTo D (jS T).ds).1.past.length u2],.agg #[.slice R1 (deskRun D (jS T).ds).1.now.length r1,.slice R2 (deskRun D (jS T).ds).1.past.length r2]] V fun e w'=>e=.returned (.bool true)∧Below V.heap.size V w' from by
          have hrun:deskRun D (jS T).ds=runTo D (jS T).ds:=if_pos (by simp [runOk,hoD,h40])
          have K:=c_sameDesk (runTo D (jS T).ds).1 (deskRun D (jS T).ds).1 _ _ _ _ V ((hNW w11 (grown_thenB (World.grownBy.refl _ _) hbT)).up7 hb) ((o10.ks.up7 hb11).up7 hb) (runTo_small hoD _) (by rw [hrun];exact runTo_small hoD _)
          rw [show eqK (runTo D (jS T).ds).1 (deskRun D (jS T).ds).1=true by rw [hrun];exact eqK_self _] at K
          exact K)
         have HXT:=Lib.hid (HXd.out _ hgT)
         have g1:((jS T).n:Int)<=(s.size:Int):=by have:=HV.out.2.2.1;omega
         have g1d:=decide_eq_true g1
         have g0:(0:Int)<=((jS T).n:Int):=by omega
         have hx:=HX.out (jS T).n
         have hTT:((bs (T.take (jS T).n)).toList == (bs (T.take (jS T).n)).toList)=true:=beq_self_eq_true _
         have g4:decide ((40:Int) < ((jS T).ds.length:Int))=false:=decide_eq_false (by omega)
         have g5:¬ (40:Int) < ((jS T).ds.length:Int):=by omega
         clear o10 hb10 hb11 HC11 hbT hgT bT bW hNW hgW
         go_wp2_with fail
         refine wp_region_wb w11.heap.size (by kernel_rfl) (by kernel_rfl) ?_
         repeat (go_big_quiet_step ((first | (go_at_call 17;exact Calls.inB (Nat.le_refl _) (HJ.out _ (WB.below _))) | (go_at_call 13;exact Calls.inB (Nat.le_refl _) (HO.out _ (WB.below _))) | (go_at_call 18;exact Calls.inB (Nat.le_refl _) (HSm.out _ (WB.below _))) | (go_at_call 19;exact Calls.inB (Nat.le_refl _) (c_alive _)))))
         refine wpQuiet_nil ?_
         rintro wz ⟨⟨_,hbz⟩,rfl⟩
         clear v0 v1 v2 v3 v4 v5
         go_wp2_with fail
         go_ret
         exact ⟨rfl,HXT.out.trans (hbz.mono HXT.out.size)⟩
        ·obtain ⟨q0,q1⟩:=HCd.out _ hgW
         have HDR:=Lib.hid (c_iDeskRun D (jS T).ds _ _ E ec wr (HKd.out _ hgW) hsm (HEd.out _ hgW) hec (by have:=HL.out;omega))
         go_wp2_with fail
         refine HDR.out.mono ?_
         rintro e w10 ⟨rn,rp,rs,rfl,o10,hb10⟩
         obtain ⟨R1,r1,R2,r2,rfl,rfl⟩:=o10.slices
         obtain ⟨w11,hw11,hz11,hb11,HC11⟩:=laidK w10 (.slice R1 (deskRun D (jS T).ds).1.now.length r1) (.slice R2 (deskRun D (jS T).ds).1.past.length r2)
         have hbT:=hb10.trans (hb11.mono hb10.size)
         have hgT:w9.grownBy w11 (some w8.heap.size):=hgW.trans (grown_thenB (World.grownBy.refl _ _) hbT)
         have hz11l:w10.heap.size < w11.heap.size:=by omega
         have hs11:=hgT.size
         clear hz11 q0 q1 HDR
         have v0:=WB.cell (w:=w11) (B:=w11.heap.size) (show w7.heap.size < w11.heap.size by omega) (HCd.out _ hgT).1
         have v1:=WB.cell (w:=w11) (B:=w11.heap.size) (show w7.heap.size < w11.heap.size by omega) (HCd.out _ hgT).2
         have bT:=(hbT.block w8.heap.size (by have:=hgW.size;omega)).trans bW
         have v2:=WB.cell (w:=w11) (B:=w11.heap.size) (show w8.heap.size < w11.heap.size by omega) (two_at bT).1
         have v3:=WB.cell (w:=w11) (B:=w11.heap.size) (show w8.heap.size < w11.heap.size by omega) (two_at bT).2.1
         have v4:=WB.cell (w:=w11) (B:=w11.heap.size) hz11l (HC11 _ (Below.refl _ _)).1
         have v5:=WB.cell (w:=w11) (B:=w11.heap.size) hz11l (HC11 _ (Below.refl _ _)).2
         have HJ:=Lib.hid (fun V (hb:Below w11.heap.size w11 V)=>show Calls Tryz.prog 17 #[.slice E (jS T).ds.length ec] V fun e w'=>e=.returned (.string (bs (T.take (jS T).n)))∧Below V.heap.size V w' from by
          have K:=c_iJournalText (jS T).ds E ec V (((HEd.out _ hgT).below hb).more hb.size) hec (by have:=HL.out;omega)
          rw [journalL,if_pos HV.out.1,HV.out.2.2.2.1] at K
          exact K)
         have HO:=Lib.hid (fun V (hb:Below w11.heap.size w11 V)=>c_sDeskOk D _ _ V ((HKd.out _ hgT).up7 hb) hsm)
         rw [hoD] at HO
         have HXT:=Lib.hid (HXd.out _ hgT)
         have g1:((jS T).n:Int)<=(s.size:Int):=by have:=HV.out.2.2.1;omega
         have g1d:=decide_eq_true g1
         have g0:(0:Int)<=((jS T).n:Int):=by omega
         have hx:=HX.out (jS T).n
         have hTT:((bs (T.take (jS T).n)).toList == (bs (T.take (jS T).n)).toList)=true:=beq_self_eq_true _
         have g4:decide ((40:Int) < ((jS T).ds.length:Int))=true:=decide_eq_true (by omega)
         have g5:(40:Int) < ((jS T).ds.length:Int):=by omega
         clear o10 hb10 hb11 HC11 hbT hgT bT bW hNW hgW
         go_wp2_with fail
         refine wp_region_wb w11.heap.size (by kernel_rfl) (by kernel_rfl) ?_
         repeat (go_big_quiet_step ((first | (go_at_call 17;exact Calls.inB (Nat.le_refl _) (HJ.out _ (WB.below _))) | (go_at_call 13;exact Calls.inB (Nat.le_refl _) (HO.out _ (WB.below _))) | (go_at_call 19;exact Calls.inB (Nat.le_refl _) (c_alive _)))))
         refine wpQuiet_nil ?_
         rintro wz ⟨⟨_,hbz⟩,rfl⟩
         clear v0 v1 v2 v3 v4 v5
         go_wp2_with fail
         go_ret
         exact ⟨rfl,HXT.out.trans (hbz.mono HXT.out.size)⟩
  ·have hn':¬ (1048576:Int) < (n:Int):=by omega
   have hm':(1048576:Int) < (m:Int):=by omega
   go_enter Tryz.func3,Tryz.ntmps3
   go_wp2_with fail
   go_ret
   exact ⟨rfl,Below.refl _ _⟩
 ·have hn':(1048576:Int) < (n:Int):=by omega
  go_enter Tryz.func3,Tryz.ntmps3
  go_wp2_with fail
  go_ret
  exact ⟨rfl,Below.refl _ _⟩
end
end Go.Proofs.YthpccmkagikhjaaGreatDoor

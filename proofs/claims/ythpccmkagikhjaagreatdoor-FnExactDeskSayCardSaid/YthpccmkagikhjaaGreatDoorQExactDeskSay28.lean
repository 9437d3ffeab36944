import Derived.Test.YthpccmkagikhjaaGreatDoorQExactDeskSay2
import Derived.Test.YthpccmkagikhjaaGreatDoorQExactDeskSay3
import Derived.Test.YthpccmkagikhjaaGreatDoorQExactDeskSay7
import Derived.Test.YthpccmkagikhjaaGreatDoorQExactDeskSay8
import Derived.Test.YthpccmkagikhjaaGreatDoorQExactDeskSay9
import Derived.Test.YthpccmkagikhjaaGreatDoorQExactDeskSay11
import Derived.Test.YthpccmkagikhjaaGreatDoorQExactDeskSay18
import Derived.Test.YthpccmkagikhjaaGreatDoorQExactDeskSay19
import Derived.Test.YthpccmkagikhjaaGreatDoorQExactDeskSay24
import Derived.Test.YthpccmkagikhjaaGreatDoorQExactDeskSay25
import Derived.Test.YthpccmkagikhjaaGreatDoorQExactDeskSay26
import Derived.Test.YthpccmkagikhjaaGreatDoorQExactDeskSay27
import Derived.Deep.CutRange
import Derived.Lib.SmallJoins
namespace Go.Proofs.YthpccmkagikhjaaGreatDoor
set_option linter.unusedVariables false
open Go.RowKit
set_option maxRecDepth 8000
set_option maxHeartbeats 16000000
section
attribute [local go_sem ↓] Go.wp_at_zero Go.wp_at_succ
theorem c_line12No (D:KV) (vn vp:Value) (s:List UInt8) (w:World) (hK:Ks w w.heap.size vn vp D) (hs:SmallK D) (ho:deskOk D=false) :
  Calls Tryz.prog 14 #[.agg #[vn,vp],.string (bs s)] w (LineP D s w):=by
 have HD:=Lib.hid (fun (W:World) (hb:Below w.heap.size w W)=>c_iDeskOk D vn vp W ((hK.below hb).more hb.size) hs)
 obtain ⟨⟨An,cn,rfl,hcn,hN⟩,Ap,cp,rfl,hcp,hP⟩:=hK
 obtain ⟨w0,hw0,hz0,hb0,bR,hS⟩:=two_boxes w (.slice An D.now.length cn) (.slice Ap D.past.length cp)
 have hle0:w.heap.size+2<=w0.heap.size:=by omega
 obtain ⟨c0,c1⟩:=hS _ (Below.refl _ w0)
 have HV:=Lib.hid (line_no (s:=s) ho)
 have H:=Lib.hid ho
 clear hN hP hs hS hz0 ho
 go_enter Tryz.func14,Tryz.ntmps14
 go_wp2_with fail
 refine (HD.out _ hb0).mono ?_
 rintro e w1 ⟨rfl,hb1⟩
 rw [H.out]
 have b2:=(hb1.block (w.heap.size+1) (by omega)).trans bR
 obtain ⟨r0,r1,f0,f1⟩:=resBox b2
 clear c0 c1 hw0
 go_wp2_with fail
 obtain ⟨k0,k1⟩:=put2 (.slice none 0 0) (.slice none 0 0) b2
 refine bodyPost_ret (v:=.tuple #[.agg #[.slice none 0 0,.slice none 0 0],.string (bs [])]) (by simp [results,Tryz.f14,go_sem,k0,k1];rfl) rfl ?_
 exact ⟨_,_,[],by rw [HV.out],by rw [HV.out];exact KO.zero _ _,below_put (hb0.trans (hb1.mono (by omega))) _ _ (by omega)⟩
theorem c_line12Deed (D:KV) (vn vp:Value) (s:List UInt8) (w:World) (hK:Ks w w.heap.size vn vp D) (ho:deskOk D=true) (hl:s.length<=100000000) (hV:LV w w.heap.size) (dk da db:Int) (hrd:readD s=some ⟨dk,da,db⟩) :
  Calls Tryz.prog 14 #[.agg #[vn,vp],.string (bs s)] w (LineP D s w):=by
 have hs:=small_ok ho
 have HVd:=Lib.hid (line_deed ho hrd)
 have HD:=Lib.hid (fun (W:World) (hb:Below w.heap.size w W)=>c_iDeskOk D vn vp W ((hK.below hb).more hb.size) hs)
 have HRd:=Lib.hid (fun (W:World) (hb:Below w.heap.size w W)=>c_iReadDeed s hl W (hV.at hb))
 rw [hrd] at HRd
 have HDo:=Lib.hid (fun (W:World) (hb:Below w.heap.size w W)=>c_after12 D vn vp dk da db W ((hK.below hb).more hb.size) ho)
 obtain ⟨⟨An,cn,rfl,hcn,hN⟩,Ap,cp,rfl,hcp,hP⟩:=hK
 obtain ⟨w0,hw0,hz0,hb0,bR,hS⟩:=two_boxes w (.slice An D.now.length cn) (.slice Ap D.past.length cp)
 have hle0:w.heap.size+2<=w0.heap.size:=by omega
 have HS:=Lib.hid (fun (W:World) (hb:Below w0.heap.size w0 W)=>hS W (hb.mono (by omega)))
 have HB0:=Lib.hid (fun (W:World) (h:Below w0.heap.size w0 W)=>hb0.trans (h.mono (show w.heap.size<=w0.heap.size by omega)))
 have HR:=Lib.hid (fun (W:World) (h:Below w0.heap.size w0 W)=>(h.block (w.heap.size+1) (by omega)).trans bR)
 obtain ⟨c0,c1⟩:=HS.out _ (Below.refl _ w0)
 have H:=Lib.hid ho
 clear hN hP hs hS bR hz0 ho hrd hV
 cases hdo:(deskDo D ⟨dk,da,db⟩).2 with
 | true =>
  have HV:=Lib.hid (show deskLine D s=((deskDo D ⟨dk,da,db⟩).1,wOk) by rw [HVd.out,hdo];rfl)
  have HDn:=Lib.hid hdo
  clear hdo
  go_enter Tryz.func14,Tryz.ntmps14
  go_wp2_with fail
  refine (HD.out _ hb0).mono ?_
  rintro e w1 ⟨rfl,hb1⟩
  rw [H.out]
  clear c0 c1 hw0
  go_wp2_with fail
  refine (HRd.out _ (HB0.out _ hb1)).mono ?_
  rintro e w2 ⟨rfl,hb2⟩
  simp only [readV]
  have hx2:=hb1.trans (hb2.mono hb1.size)
  obtain ⟨w3,hw3⟩:∃ w3,w2.alloc (.cells #[.int .i64 dk,.int .i64 da,.int .i64 db] 39)=w3:=⟨_,rfl⟩
  have hx3:Below w0.heap.size w0 w3:=by rw [<- hw3];exact hx2.alloc hx2.size _
  have bN:w3.heap[w2.heap.size]?=some (.cells #[.int .i64 dk,.int .i64 da,.int .i64 db] 39 (0,0)):=by rw [<- hw3];exact heap_alloc_new _ _
  have n0:=cell_of_row _ w2.heap.size 0 _ _ _ bN
  have n1:=cell_of_row _ w2.heap.size 1 _ _ _ bN
  have n2:=cell_of_row _ w2.heap.size 2 _ _ _ bN
  obtain ⟨d0,d1⟩:=HS.out _ hx3
  clear bN
  go_wp2_with fail
  refine (HDo.out _ (HB0.out _ hx3)).mono ?_
  rintro e w4 ⟨un,up,us,rfl,ko,hb4⟩
  obtain ⟨A5,c5,A6,c6,rfl,rfl⟩:=ko.slices
  rw [HDn.out]
  generalize (deskDo D ⟨dk,da,db⟩).1=M at *
  have hx4:=hx3.trans (hb4.mono hx3.size)
  obtain ⟨w5,hw5⟩:∃ w5,w4.alloc (.cells #[.slice A5 M.now.length c5,.slice A6 M.past.length c6] 31)=w5:=⟨_,rfl⟩
  have hx5:Below w0.heap.size w0 w5:=by rw [<- hw5];exact hx4.alloc hx4.size _
  have bM:w5.heap[w4.heap.size]?=some (.cells #[.slice A5 M.now.length c5,.slice A6 M.past.length c6] 31 (0,0)):=by rw [<- hw5];exact heap_alloc_new _ _
  have m0:=cell_of_row _ w4.heap.size 0 _ _ _ bM
  have m1:=cell_of_row _ w4.heap.size 1 _ _ _ bM
  have b5:=HR.out _ hx5
  obtain ⟨r0,r1,f0,f1⟩:=resBox b5
  have HK:Hid (KO w5 w3.heap.size (.slice A5 M.now.length c5) (.slice A6 M.past.length c6) M us):=Lib.hid (by rw [<- hw5];exact ko.below ((Below.refl w4.heap.size w4).alloc (Nat.le_refl _) _) (Nat.le_refl _))
  have hz3:=hx3.size
  have HX:=Lib.hid (HB0.out _ hx5)
  clear d0 d1 n0 n1 n2 bM ko hw3 hx4 hx2
  go_wp2_with fail
  obtain ⟨k0,k1⟩:=put2 (.slice A5 M.now.length c5) (.slice A6 M.past.length c6) b5
  refine bodyPost_ret (v:=.tuple #[.agg #[.slice A5 M.now.length c5,.slice A6 M.past.length c6],.string (bs wOk)]) (by simp [results,Tryz.f14,go_sem,k0,k1];rfl) rfl ?_
  exact ⟨_,_,us,by rw [HV.out],by rw [HV.out];exact HK.out.putRes _ _ (by omega) (by omega),below_put HX.out _ _ (by omega)⟩
 | false =>
  have HV:=Lib.hid (show deskLine D s=((deskDo D ⟨dk,da,db⟩).1,wNot) by rw [HVd.out,hdo];rfl)
  have HDn:=Lib.hid hdo
  clear hdo
  go_enter Tryz.func14,Tryz.ntmps14
  go_wp2_with fail
  refine (HD.out _ hb0).mono ?_
  rintro e w1 ⟨rfl,hb1⟩
  rw [H.out]
  clear c0 c1 hw0
  go_wp2_with fail
  refine (HRd.out _ (HB0.out _ hb1)).mono ?_
  rintro e w2 ⟨rfl,hb2⟩
  simp only [readV]
  have hx2:=hb1.trans (hb2.mono hb1.size)
  obtain ⟨w3,hw3⟩:∃ w3,w2.alloc (.cells #[.int .i64 dk,.int .i64 da,.int .i64 db] 39)=w3:=⟨_,rfl⟩
  have hx3:Below w0.heap.size w0 w3:=by rw [<- hw3];exact hx2.alloc hx2.size _
  have bN:w3.heap[w2.heap.size]?=some (.cells #[.int .i64 dk,.int .i64 da,.int .i64 db] 39 (0,0)):=by rw [<- hw3];exact heap_alloc_new _ _
  have n0:=cell_of_row _ w2.heap.size 0 _ _ _ bN
  have n1:=cell_of_row _ w2.heap.size 1 _ _ _ bN
  have n2:=cell_of_row _ w2.heap.size 2 _ _ _ bN
  obtain ⟨d0,d1⟩:=HS.out _ hx3
  clear bN
  go_wp2_with fail
  refine (HDo.out _ (HB0.out _ hx3)).mono ?_
  rintro e w4 ⟨un,up,us,rfl,ko,hb4⟩
  obtain ⟨A5,c5,A6,c6,rfl,rfl⟩:=ko.slices
  rw [HDn.out]
  generalize (deskDo D ⟨dk,da,db⟩).1=M at *
  have hx4:=hx3.trans (hb4.mono hx3.size)
  obtain ⟨w5,hw5⟩:∃ w5,w4.alloc (.cells #[.slice A5 M.now.length c5,.slice A6 M.past.length c6] 31)=w5:=⟨_,rfl⟩
  have hx5:Below w0.heap.size w0 w5:=by rw [<- hw5];exact hx4.alloc hx4.size _
  have bM:w5.heap[w4.heap.size]?=some (.cells #[.slice A5 M.now.length c5,.slice A6 M.past.length c6] 31 (0,0)):=by rw [<- hw5];exact heap_alloc_new _ _
  have m0:=cell_of_row _ w4.heap.size 0 _ _ _ bM
  have m1:=cell_of_row _ w4.heap.size 1 _ _ _ bM
  have b5:=HR.out _ hx5
  obtain ⟨r0,r1,f0,f1⟩:=resBox b5
  have HK:Hid (KO w5 w3.heap.size (.slice A5 M.now.length c5) (.slice A6 M.past.length c6) M us):=Lib.hid (by rw [<- hw5];exact ko.below ((Below.refl w4.heap.size w4).alloc (Nat.le_refl _) _) (Nat.le_refl _))
  have hz3:=hx3.size
  have HX:=Lib.hid (HB0.out _ hx5)
  clear d0 d1 n0 n1 n2 bM ko hw3 hx4 hx2
  go_wp2_with fail
  obtain ⟨k0,k1⟩:=put2 (.slice A5 M.now.length c5) (.slice A6 M.past.length c6) b5
  refine bodyPost_ret (v:=.tuple #[.agg #[.slice A5 M.now.length c5,.slice A6 M.past.length c6],.string (bs wNot)]) (by simp [results,Tryz.f14,go_sem,k0,k1];rfl) rfl ?_
  exact ⟨_,_,us,by rw [HV.out],by rw [HV.out];exact HK.out.putRes _ _ (by omega) (by omega),below_put HX.out _ _ (by omega)⟩
theorem c_line12Ask (D:KV) (vn vp:Value) (s:List UInt8) (w:World) (hK:Ks w w.heap.size vn vp D) (ho:deskOk D=true) (hl:s.length<=100000000) (hV:LV w w.heap.size) (hrd:readD s=none) :
  Calls Tryz.prog 14 #[.agg #[vn,vp],.string (bs s)] w (LineP D s w):=by
 have hs:=small_ok ho
 have HV:=Lib.hid (line_ask ho hrd)
 have HD:=Lib.hid (fun (W:World) (hb:Below w.heap.size w W)=>c_iDeskOk D vn vp W ((hK.below hb).more hb.size) hs)
 have HRd:=Lib.hid (fun (W:World) (hb:Below w.heap.size w W)=>c_iReadDeed s hl W (hV.at hb))
 rw [hrd] at HRd
 have HCp:=Lib.hid (fun (W:World) (hb:Below w.heap.size w W)=>c_copied D vn vp W ((hK.below hb).more hb.size) hs)
 have HAn:=Lib.hid (fun (W:World) (hb:Below w.heap.size w W)=>c_answer D vn vp s W ((hK.below hb).more hb.size) ho hl (hV.at hb))
 obtain ⟨⟨An,cn,rfl,hcn,hN⟩,Ap,cp,rfl,hcp,hP⟩:=hK
 obtain ⟨w0,hw0,hz0,hb0,bR,hS⟩:=two_boxes w (.slice An D.now.length cn) (.slice Ap D.past.length cp)
 have hle0:w.heap.size+2<=w0.heap.size:=by omega
 have HS:=Lib.hid hS
 have HB0:=Lib.hid (fun (W:World) (h:Below w0.heap.size w0 W)=>hb0.trans (h.mono (show w.heap.size<=w0.heap.size by omega)))
 have HR:=Lib.hid (fun (W:World) (h:Below w0.heap.size w0 W)=>(h.block (w.heap.size+1) (by omega)).trans bR)
 obtain ⟨c0,c1⟩:=HS.out _ (Below.refl _ w0)
 have H:=Lib.hid ho
 clear hN hP hs hS bR hz0 ho hrd hV
 go_enter Tryz.func14,Tryz.ntmps14
 go_wp2_with fail
 refine (HD.out _ hb0).mono ?_
 rintro e w1 ⟨rfl,hb1⟩
 rw [H.out]
 clear c0 c1 hw0
 go_wp2_with fail
 refine (HRd.out _ (HB0.out _ hb1)).mono ?_
 rintro e w2 ⟨rfl,hb2⟩
 simp only [readV]
 have hx2:=hb1.trans (hb2.mono hb1.size)
 go_wp2_with fail
 have hx3:Below w0.heap.size w0 (w2.alloc (.cells #[.int .i64 0,.int .i64 0,.int .i64 0] 39)):=hx2.alloc hx2.size _
 generalize w2.alloc (.cells #[.int .i64 0,.int .i64 0,.int .i64 0] 39)=w3 at *
 have hx3d:Below w0.heap.size w0 w3.drew:=hx3.drew
 obtain ⟨d0,d1⟩:=HS.out _ (hx3.mono (by omega))
 go_region_held3 (fun W=>W.cell? ⟨w.heap.size,0,none⟩=some (.slice An D.now.length cn)∧W.cell? ⟨w.heap.size,1,none⟩=some (.slice Ap D.past.length cp))
  (first
    | exact HS.out _ hy7
    | exact HS.out _ (hx6.mono (by omega))
    | exact HS.out _ (hx5.mono (by omega))
    | go_keep)
  (first
    | (go_at_call 50;refine (HCp.out _ (HB0.out _ hx3d)).mono ?_;rintro e w5 ⟨un,up,us,rfl,ko,hb5⟩;obtain ⟨A5,c5,A6,c6,rfl,rfl⟩:=ko.slices;have hx5:Below w0.heap.size w0 w5:=hx3d.trans (hb5.mono hx3d.size))
    | (go_at_call 51;refine (HAn.out w5 (HB0.out _ hx5)).mono ?_;rintro e w6 ⟨rfl,hb6⟩;have hz5:=hx5.size;have hx6:Below w0.heap.size w0 w6:=hx5.trans (hb6.mono hz5);have b6:=HR.out _ hx6;obtain ⟨r0,r1,f0,f1⟩:=resBox b6;have hy7:=below_put (hx6.mono (show w.heap.size+1<=w0.heap.size by omega)) (.slice A5 D.now.length c5) (.slice A6 D.past.length c6) (Nat.le_refl (w.heap.size+1)))
    | fail)
 have HK:=Lib.hid (ko.below hb6 (Nat.le_refl _))
 have hz3:=hx3d.size
 have HB:=Lib.hid hy7
 clear ko hy7 hx6 hx5
 go_wp2_with fail
 obtain ⟨k0,k1⟩:=put2 (.slice A5 D.now.length c5) (.slice A6 D.past.length c6) b6
 refine bodyPost_ret (v:=.tuple #[.agg #[.slice A5 D.now.length c5,.slice A6 D.past.length c6],.string (bs (askL D.now s))]) (by simp [results,Tryz.f14,go_sem,k0,k1]) rfl ?_
 exact ⟨_,_,us,by rw [HV.out],by rw [HV.out];exact HK.out.putRes _ _ (by omega) (by omega),hb0.trans (HB.out.mono (by omega))⟩
theorem c_iDeskLine (D:KV) (vn vp:Value) (s:List UInt8) (w:World) (hK:Ks w w.heap.size vn vp D) (hs:SmallK D) (hl:s.length<=100000000) (hV:LV w w.heap.size) :
  Calls Tryz.prog 14 #[.agg #[vn,vp],.string (bs s)] w (LineP D s w):=by
 cases ho:deskOk D with
 | false=>exact c_line12No D vn vp s w hK hs ho
 | true =>
  cases hrd:readD s with
  | some d=>exact c_line12Deed D vn vp s w hK ho hl hV d.k d.a d.b hrd
  | none=>exact c_line12Ask D vn vp s w hK ho hl hV hrd
end
section
attribute [local go_sem ↓] Go.wp_at_zero Go.wp_at_succ
theorem c_iDeskSay (D:KV) (ls:List (List UInt8)) (vn vp:Value) (A:Option Addr) (c:Nat) (w:World) (hK:Ks w w.heap.size vn vp D) (hs:SmallK D) (hE:Ss w w.heap.size A ls) (hcap:ls.length<=c) (hn:ls.length<=140737488351232) (hl:∀ k,k < ls.length->(ZS ls k).length<=100000000) (hV:LV w w.heap.size) :
  Calls Tryz.prog 25 #[.agg #[vn,vp],.slice A ls.length c] w (SayP D ls w):=by
 have HD:=Lib.hid (fun (W:World) (hb:Below w.heap.size w W)=>c_iDeskOk D vn vp W ((hK.below hb).more hb.size) hs)
 have HCp:=Lib.hid (fun (W:World) (hb:Below w.heap.size w W)=>c_copied D vn vp W ((hK.below hb).more hb.size) hs)
 have HVV:=Lib.hid (fun (W:World) (hb:Below w.heap.size w W)=>hV.at hb)
 obtain ⟨⟨An,cn,rfl,hcn,hN⟩,Ap,cp,rfl,hcp,hP⟩:=hK
 obtain ⟨w0,hw0,hz0,hb0,bR,hS⟩:=two_boxes w (.slice An D.now.length cn) (.slice Ap D.past.length cp)
 have hle0:w.heap.size+2<=w0.heap.size:=by omega
 have HS:=Lib.hid (fun (W:World) (hb:Below w0.heap.size w0 W)=>hS W (hb.mono (by omega)))
 have HB0:=Lib.hid (fun (W:World) (h:Below w0.heap.size w0 W)=>hb0.trans (h.mono (show w.heap.size<=w0.heap.size by omega)))
 have HR:=Lib.hid (fun (W:World) (h:Below w0.heap.size w0 W)=>(h.block (w.heap.size+1) (by omega)).trans bR)
 obtain ⟨c0,c1⟩:=HS.out _ (Below.refl _ w0)
 clear hN hP hs hS bR hz0 hV
 cases ho:deskOk D with
 | false =>
  have H:=Lib.hid ho
  have HV:=Lib.hid (deskSay_no (D:=D) (ls:=ls) (by simp [sayOk,ho]))
  clear ho
  go_enter Tryz.func25,Tryz.ntmps25
  go_wp2_with fail
  refine (HD.out _ hb0).mono ?_
  rintro e w1 ⟨rfl,hb1⟩
  rw [H.out]
  have b2:=HR.out _ hb1
  obtain ⟨r0,r1,f0,f1⟩:=resBox b2
  clear c0 c1 hw0
  go_wp2_with fail
  obtain ⟨k0,k1⟩:=put2 (.slice none 0 0) (.slice none 0 0) b2
  refine bodyPost_ret (v:=.tuple #[.agg #[.slice none 0 0,.slice none 0 0],.slice none 0 0]) (by simp [results,Tryz.f25,go_sem,k0,k1]) rfl ?_
  exact ⟨_,_,[],_,rfl,by rw [HV.out];exact KO.zero _ _,by rw [HV.out];exact SO.nil _ _,by rw [HV.out];exact fun r e=>by simp [Value.ownBlock] at e,below_put (HB0.out _ hb1) _ _ (by omega)⟩
 | true =>
  have H:=Lib.hid ho
  by_cases h40:ls.length<=40
  ·have p40:¬ (40:Int) < (ls.length:Int):=by omega
   have HV:=Lib.hid (deskSay_yes (D:=D) (ls:=ls) (by simp [sayOk,ho,h40]))
   have HE:=Lib.hid hE
   have HRt:=Lib.hid (fun k (hk:k < ls.length)=>sayTo_at D hk)
   have HLen:=Lib.hid (fun k=>sayTo_len D (ls.take k))
   have HOk:=Lib.hid (fun k=>(sayTo_ok ho (ls.take k)).1)
   have HL:=Lib.hid hl
   clear ho hE hl
   go_enter Tryz.func25,Tryz.ntmps25
   go_wp2_with fail
   refine (HD.out _ hb0).mono ?_
   rintro e w1 ⟨rfl,hb1⟩
   rw [H.out]
   obtain ⟨d0,d1⟩:=HS.out _ hb1
   clear c0 c1 hw0
   go_wp2_with fail
   refine (HCp.out _ (HB0.out _ hb1)).mono ?_
   rintro e w2 ⟨un,up,us,rfl,ko,hb2⟩
   have hz1:=hb1.size
   have hz2:=hb2.size
   have hx2:=hb1.trans (hb2.mono hz1)
   obtain ⟨Gn,gn,Gp,gp,rfl,rfl⟩:=ko.slices
   obtain ⟨w3,hw3⟩:∃ w3,w2.alloc (.cells #[.slice Gn D.now.length gn,.slice Gp D.past.length gp] 31)=w3:=⟨_,rfl⟩
   have hz3:w2.heap.size < w3.heap.size:=by rw [<- hw3];simp
   have hb3:Below w2.heap.size w2 w3:=by rw [<- hw3];exact (Below.refl _ w2).alloc (Nat.le_refl _) _
   have bO:w3.heap[w2.heap.size]?=some (.cells #[.slice Gn D.now.length gn,.slice Gp D.past.length gp] 31 (0,0)):=by rw [<- hw3];exact heap_alloc_new _ _
   have hx3:=hx2.trans (hb3.mono (by omega))
   have ko3:KO w3 w1.heap.size (.slice Gn D.now.length gn) (.slice Gp D.past.length gp) D us:=ko.below hb3 (Nat.le_refl _)
   clear d0 d1 ko hb3
   go_wp2_with fail
   clear hw3
   go_loopw [7,25] (fun ov i wr=>∃ (k:Nat) (xn xp:Value) (xs:List Value),k<=ls.length∧i=.int .i64 (k:Int)∧wr.heap[w2.heap.size]?=some (.cells #[xn,xp] 31 (0,0))∧KO wr w1.heap.size xn xp (sayTo D (ls.take k)).1 xs∧SO wr (w2.heap.size+1) ov (sayTo D (ls.take k)).2∧SayAp ov xn xp xs (sayTo D (ls.take k)).1.past.length∧Below w2.heap.size w3 wr) (fun _ i _=>ls.length - (intOf i).toNat)
   case atStart=>exact ⟨0,_,_,_,by omega,rfl,bO,ko3,SO.nil _ _,fun r e=>by simp [Value.ownBlock] at e,Below.refl _ _⟩
   case round =>
    clear ko3 bO
    obtain ⟨k,xn,xp,xs,hk,rfl,bO,ko,own,ap,hb⟩:=hrel
    have hsz:=hb.size
    have hOl:=(Array.getElem?_eq_some_iff.1 bO).1
    have p1:(0:Int)<=(k:Int):=by omega
    obtain ⟨X1,x1,X2,x2,rfl,rfl⟩:=ko.slices
    have q5:=cell_of_row _ w2.heap.size 0 _ _ _ bO
    have q6:=cell_of_row _ w2.heap.size 1 _ _ _ bO
    have hbw:=hb0.trans ((hx3.trans (hb.mono (by omega))).mono (show w.heap.size<=w0.heap.size by omega))
    have hok:=HOk.out k
    have hRk:=HRt.out k
    have hle:=HLen.out k
    rw [List.length_take] at hle
    generalize hrk:sayTo D (ls.take k)=rk at *
    have HRK:=Lib.hid hrk
    clear hrk
    obtain ⟨Dk,ak⟩:=rk
    simp only at ko own ap hok hRk hle bO q5 q6
    by_cases hlt:k < ls.length
    ·have p2:(k:Int) < (ls.length:Int):=by omega
     have hRk:=hRk hlt
     obtain ⟨b,off,rfl,hlb,hcc⟩:=HE.out (by omega)
     have e0:=(hbw.cell (p:=⟨b,off+k,none⟩) hlb).trans (hcc k hlt)
     clear hcc
     have hll:=HL.out k hlt
     obtain ⟨l,hd⟩:∃ l,ZS ls k=l:=⟨_,rfl⟩
     rw [hd] at e0 hRk hll
     have HN:=Lib.hid hRk
     have HLn:=Lib.hid (fun (W:World) (hbW:Below wr.heap.size wr W)=>c_iDeskLine Dk (.slice X1 Dk.now.length x1) (.slice X2 Dk.past.length x2) l W ((ko.ks.below hbW).more hbW.size) (small_ok hok) hll (HVV.out W (hbw.trans (hbW.mono hbw.size))))
     have HKo:=Lib.hid ko
     have HSO:=Lib.hid (fun (W:World) (hbW:Below wr.heap.size wr W)=>show W.heap[w2.heap.size]?=some (.cells #[.slice X1 Dk.now.length x1,.slice X2 Dk.past.length x2] 31 (0,0)) from (hbW.block w2.heap.size hOl).trans bO)
     have HLe:=Lib.hid (show ak.length<=1000000000000 by omega)
     have HOwn:=Lib.hid own
     have hzw:=hbw.size
     clear hRk hd hll hle ko bO hok own ap
     go_wp2_with fail
     refine (HLn.out _ (Below.refl _ _)).mono ?_
     rintro e w6 ⟨yn,yp,ys,rfl,o6,hb6⟩
     obtain ⟨A5,c5,A6,c6,rfl,rfl⟩:=o6.slices
     generalize hDL:deskLine Dk l=DL at *
     obtain ⟨M,an⟩:=DL
     have HDL:=Lib.hid hDL
     clear hDL
     simp only at o6
     obtain ⟨w7,hw7⟩:∃ w7,w6.alloc (.cells #[.slice A5 M.now.length c5,.slice A6 M.past.length c6] 31)=w7:=⟨_,rfl⟩
     have hb67:Below w6.heap.size w6 w7:=by rw [<- hw7];exact (Below.refl _ w6).alloc (Nat.le_refl _) _
     have bN:w7.heap[w6.heap.size]?=some (.cells #[.slice A5 M.now.length c5,.slice A6 M.past.length c6] 31 (0,0)):=by rw [<- hw7];exact heap_alloc_new _ _
     have hz6:=hb6.size
     have hx7:=hb6.trans (hb67.mono hb6.size)
     have hz7:=hx7.size
     have bO7:=HSO.out _ hx7
     obtain ⟨r0,r1,f0,f1⟩:=resBox bO7
     have n0:=cell_of_row _ w6.heap.size 0 _ _ _ bN
     have n1:=cell_of_row _ w6.heap.size 1 _ _ _ bN
     obtain ⟨Wb,hWb⟩:∃ Wb,w7.setCell ⟨w2.heap.size,0,none⟩ (.slice A5 M.now.length c5)=Wb:=⟨_,rfl⟩
     obtain ⟨WO,hWO⟩:∃ WO,Wb.setCell ⟨w2.heap.size,1,none⟩ (.slice A6 M.past.length c6)=WO:=⟨_,rfl⟩
     have bOb:Wb.heap[w2.heap.size]?=some (.cells #[.slice A5 M.now.length c5,.slice X2 Dk.past.length x2] 31 (0,0)):=by rw [<- hWb];exact set2a _ bO7
     have t1:=cell_of_row _ w2.heap.size 1 _ _ _ bOb
     have s1:Wb.frozen? ⟨w2.heap.size,1,none⟩=false:=unfrozen_of bOb
     have HK8:Hid (WO.heap[w2.heap.size]?=some (.cells #[.slice A5 M.now.length c5,.slice A6 M.past.length c6] 31 (0,0))):=Lib.hid (by rw [<- hWO];exact set2b _ bOb)
     have hgO:w7.grownBy WO (some w2.heap.size):=by rw [<- hWO,<- hWb];exact W2_grown _ _ _ _
     have ko8:KO WO wr.heap.size (.slice A5 M.now.length c5) (.slice A6 M.past.length c6) M ys:=(show KO w7 wr.heap.size _ _ M ys from o6.below hb67 (Nat.le_refl _)).keptLow hgO hOl
     have hne:∀ r,u7.ownBlock=some r->w2.heap.size+1<=r:=fun r e=>owns_base HOwn.out r e
     have own8:SO WO (w2.heap.size+1) u7 ak:=World.ownsRow.kept (HOwn.out.below hx7 (Nat.le_refl _)) hgO (.inr fun e=>by have:=hne _ e;omega)
     have hob:∀ r,u7.ownBlock=some r->r < wr.heap.size:=owns_lt HOwn.out
     have hzO:=World.grownBy.size hgO
     have hb8:Below w2.heap.size w3 WO:=(hb.trans (hx7.mono (by omega))).grown hgO (by omega) (fun k e=>by cases e;omega)
     have HK9:=Lib.hid ko8
     have q7:w2.heap.size+1<=(WO.alloc (.cells #[.string (bs an)] 9)).heap.size:=by simp;omega
     have hbA:Below w2.heap.size w3 (WO.alloc (.cells #[.string (bs an)] 9)):=hb8.alloc (by omega) _
     clear bN bO7 bOb hgO hb8 hb67 o6 e0 q5 q6 hx7
     go_wp2_with (refine app_S2 (by rfl) (.tmp 36) (.tmp 38) (by rfl) (w2.heap.size+1) u7 ak an WO.heap.size (by rfl) (own8.alloc _) (by rfl) (heap_alloc_new _ _) HLe.out q7 ?_;intro g9 cap9 w9 own9 hgr9 hor9)
     have hz9:=World.grownBy.size hgr9
     simp only [World.size_alloc] at hz9 hor9
     go_wp2_with fail
     go_roundw
     case rel =>
      have hg9:∀ r,(Value.slice (some ⟨g9,0,none⟩) (ak.length+1) cap9).ownBlock=some r->(u7.ownBlock=some r∧r < wr.heap.size)∨r=WO.heap.size+1:=fun r e=>by
       have er:g9=r:=by simpa [Value.ownBlock] using e
       subst er
       rcases hor9 with h | h
       ·exact .inl ⟨h,hob _ h⟩
       ·exact .inr h
      have koA:=ko8.below ((Below.refl WO.heap.size WO).alloc (Nat.le_refl _) (.cells #[.string (bs an)] 9)) (Nat.le_refl _)
      have ko9:KO w9 wr.heap.size (.slice A5 M.now.length c5) (.slice A6 M.past.length c6) M ys:=by
       cases hu:u7.ownBlock with
       | none=>rw [hu] at hgr9;exact koA.below (B:=(WO.alloc (.cells #[.string (bs an)] 9)).heap.size) ((Below.refl _ _).grown hgr9 (Nat.le_refl _) (fun k e=>by cases e)) (Nat.le_refl _)
       | some r=>rw [hu] at hgr9;exact koA.keptLow hgr9 (hob _ hu)
      refine ⟨k+1,_,_,ys,by omega,by go_num,?_,by rw [HN.out];exact ko9.mono (by omega),by rw [HN.out];simpa using own9,?_,hbA.grown hgr9 (by simp;omega) (fun r e=>by have:=hne r e;omega)⟩
      ·exact (hgr9.block _ (by simp;omega) (fun e=>by have:=hne _ e.symm;omega)).trans ((Below.heap_alloc _ _ _ (by omega)).trans HK8.out)
      ·rw [HN.out]
       intro r e
       rcases hg9 r e with ⟨_,h⟩ | h
       ·exact HK9.out.apart (.inl h)
       ·exact HK9.out.apart (.inr (by omega))
     case measure=>simp [intOf];omega
    ·have p2:¬ (k:Int) < (ls.length:Int):=by omega
     have hkl:ls.take k=ls:=List.take_of_length_le (by omega)
     have HV2:=Lib.hid (show deskSay D ls=(Dk,ak) by rw [HV.out,<- hkl];exact HRK.out)
     have hbx:=hx3.trans (hb.mono (by omega))
     have b2:=HR.out _ hbx
     obtain ⟨r0,r1,f0,f1⟩:=resBox b2
     have HK:=Lib.hid ko
     have HAp:=Lib.hid ap
     have HOwn:=Lib.hid own
     obtain ⟨O9,o9,rfl,-,-,-⟩:=own.form
     clear ko bO hok hRk own ap hle
     go_wp2_with fail
     obtain ⟨k0,k1⟩:=put2 (.slice X1 Dk.now.length x1) (.slice X2 Dk.past.length x2) b2
     refine bodyPost_ret (v:=.tuple #[.agg #[.slice X1 Dk.now.length x1,.slice X2 Dk.past.length x2],.slice O9 ak.length o9]) (by simp [results,Tryz.f25,go_sem,k0,k1]) rfl ?_
     exact ⟨_,_,xs,_,rfl,by rw [HV2.out];exact HK.out.putRes _ _ (by omega) (by omega),by rw [HV2.out];exact (World.ownsRow.kept HOwn.out (W2_grown _ _ _ _) (.inr fun e=>by have:=owns_base HOwn.out _ e;omega)).mono (by omega),by rw [HV2.out];exact HAp.out,below_put hbw _ _ (by omega)⟩
  ·have p40:(40:Int) < (ls.length:Int):=by omega
   have HV:=Lib.hid (deskSay_no (D:=D) (ls:=ls) (by simp [sayOk,h40]))
   clear ho hE hl
   go_enter Tryz.func25,Tryz.ntmps25
   go_wp2_with fail
   refine (HD.out _ hb0).mono ?_
   rintro e w1 ⟨rfl,hb1⟩
   rw [H.out]
   have b2:=HR.out _ hb1
   obtain ⟨r0,r1,f0,f1⟩:=resBox b2
   clear c0 c1 hw0
   go_wp2_with fail
   obtain ⟨k0,k1⟩:=put2 (.slice none 0 0) (.slice none 0 0) b2
   refine bodyPost_ret (v:=.tuple #[.agg #[.slice none 0 0,.slice none 0 0],.slice none 0 0]) (by simp [results,Tryz.f25,go_sem,k0,k1]) rfl ?_
   exact ⟨_,_,[],_,rfl,by rw [HV.out];exact KO.zero _ _,by rw [HV.out];exact SO.nil _ _,by rw [HV.out];exact fun r e=>by simp [Value.ownBlock] at e,below_put (HB0.out _ hb1) _ _ (by omega)⟩
end
section
attribute [local go_sem ↓] Go.wp_at_zero Go.wp_at_succ
theorem small_says {D:KV} {ls:List (List UInt8)}:((deskSay D ls).1.now.length<=1048576∧(deskSay D ls).1.past.length<=1048576∧totL (deskSay D ls).1.past (deskSay D ls).1.past.length<=1048576)∧∀ k,k < (deskSay D ls).1.past.length->(LL (deskSay D ls).1.past k).length<=1048576:=by
 cases h:sayOk D ls with
 | true =>
  rw [deskSay_yes h]
  simp only [sayOk,Bool.and_eq_true] at h
  exact small_of (sayTo_ok h.1 ls).1
 | false =>
  rw [deskSay_no h]
  exact ⟨⟨by simp [noK],by simp [noK],by simp [noK,totL]⟩,fun k hk=>by simp [noK] at hk⟩
theorem says_len (D:KV) (ls:List (List UInt8)):(deskSay D ls).2.length<=ls.length:=by
 cases h:sayOk D ls with
 | true=>rw [deskSay_yes h,sayTo_len];exact Nat.le_refl _
 | false=>rw [deskSay_no h];simp
theorem SO.same7 {w W:World} {base:Nat} {v:Value} {L:List (List UInt8)} (h:SO w base v L) (hk:∀ r,v.ownBlock=some r->W.heap[r]?=w.heap[r]?):SO W base v L:=by
 refine ⟨h.1,?_⟩
 rcases h.2 with h2 | ⟨g,cap,cur,rfl,hgb,hh,rest⟩
 ·exact .inl h2
 ·exact .inr ⟨g,cap,cur,rfl,hgb,by rw [hk g (by simp [Value.ownBlock])];exact hh,rest⟩
theorem KO.keptAp {w w':World} {base:Nat} {row:Option Nat} {vn vp:Value} {D:KV} {vs:List Value} (h:KO w base vn vp D vs) (hg:w.grownBy w' row) (hr:∀ r,row=some r->vn.ownBlock≠some r∧vp.ownBlock≠some r∧∀ k,k < D.past.length->(vs.getD k undef).ownBlock≠some r):KO w' base vn vp D vs :=
 ⟨h.now.grownR' hg (fun k hk e=>(hr k e).1 hk),
   h.past.kept hg (fun k hk e=>(hr k e).2.1 hk) (fun j hj k hk e=>(hr k e).2.2 j hj hk),h.apn,h.api⟩
theorem w_FnExactDeskSay (D:KV) (vn vp:Value) (ls:List (List UInt8)) (F:Option Addr) (fc:Nat) (w:World) (hj:LawK w vn vp D) (hF:Ss w w.heap.size F ls) (hfc:ls.length<=fc) (hds:ls.length<=9223372036854775807) (hks:∀ k,k < ls.length->(ZS ls k).length<=9223372036854775807) (hV:LV w w.heap.size) :
  Calls Tryz.prog 7 #[.agg #[vn,vp],.slice F ls.length fc] w fun e w'=>e=.returned (.bool true)∧Below w.heap.size w w':=by
 obtain ⟨hK,l1,l2,l3⟩:=hj
 have HVV:=Lib.hid hV
 clear hV
 obtain ⟨X1,x1,X2,x2,rfl,rfl⟩:=(show ∃ A c A' c',vn=.slice A D.now.length c∧vp=.slice A' D.past.length c' from by obtain ⟨⟨A,c,e1,-,-⟩,A',c',e2,-,-⟩:=hK;exact ⟨A,c,A',c',e1,e2⟩)
 obtain ⟨w0,hw0,hz0,hb0,HC0⟩:=box_two w (.slice X1 D.now.length x1) (.slice X2 D.past.length x2) 56
 have HFd:=Lib.hid (fun W (hb:Below w.heap.size w W)=>(hF.below hb).more hb.size)
 have k1:=ks_up hK hb0
 have HC:=Lib.hid HC0
 obtain ⟨q0,q1⟩:=HC.out _ (Below.refl _ w0)
 have HZ:=Lib.hid (c_szDesk D _ _ w0 k1 l1 l2 l3)
 clear hK HC0 l1 l2 l3
 go_enter Tryz.func7,Tryz.ntmps7
 go_wp2_with fail
 clear hw0 q0 q1
 refine HZ.out.mono ?_
 rintro e w3 ⟨r,rfl,hb3,hr1,hr2,hr3⟩
 have hx3:=hb0.trans (hb3.mono hb0.size)
 by_cases hn:r < 0
 ·have d1:decide (r < 0)=true:=decide_eq_true hn
  clear hr3
  go_wp2_with fail
  go_ret
  exact ⟨rfl,hx3⟩
 ·have d1:decide (r < 0)=false:=decide_eq_false hn
  obtain ⟨⟨m1,m2,m3⟩,m4,hsm⟩:=small_all (by omega) (hr3 (by omega))
  clear hr3
  go_wp2_with fail
  refine (c_szStringS ls F fc r w3 ((hF.below hx3).more hx3.size) (by omega) hr2 hds hks).mono ?_
  rintro e w3' ⟨r4,rfl,rfl,-,-,hr4⟩
  by_cases hn4:r4 < 0
  ·have d14:decide (r4 < 0)=true:=decide_eq_true hn4
   go_wp2_with fail
   go_ret
   exact ⟨rfl,hx3⟩
  have d14:decide (r4 < 0)=false:=decide_eq_false hn4
  obtain ⟨hdl,hlk⟩:=hr4 (by omega)
  have hll:∀ k,k < ls.length->(ZS ls k).length<=100000000:=fun k hk=>by have:=hlk k hk;omega
  clear hlk hr4 hks
  have HTe:=Lib.hid (fun W (hb:Below w.heap.size w W)=>c_toStringS ls F fc W (HFd.out W hb) hdl)
  have hal:=Nat.le_trans (says_len D ls) hdl
  have HL:=Lib.hid (fun W (hb:Below w3.heap.size w3 W)=>HC.out W (hb3.trans (hb.mono hb3.size)))
  have HTo:=Lib.hid (fun W (hb:Below w3.heap.size w3 W)=>c_toDesk D _ _ W (ks_up k1 (hb3.trans (hb.mono hb3.size))) m1 m2 m4)
  have HDs:=Lib.hid (fun W {un up:Value} {A:Option Addr} {c:Nat} (hK:Ks W W.heap.size un up D) (hE:Ss W W.heap.size A ls)=>c_sDeskSay D ls un up A c W hK hsm hE (by omega) hll)
  have hs3:=hx3.size
  obtain ⟨q0,q1⟩:=HL.out w3 (Below.refl _ _)
  go_wp2_with fail
  refine (HTo.out w3 (Below.refl _ _)).mono ?_
  rintro e wa ⟨an,ap,as2,rfl,oa,hba⟩
  obtain ⟨A1,a1,A2,a2,rfl,rfl⟩:=oa.slices
  clear q0 q1
  go_wp2_with fail
  refine (HTe.out wa (hx3.trans (hba.mono hx3.size))).mono ?_
  rintro e wb ⟨vb,rfl,ob,hbb⟩
  obtain ⟨Fb,cb,rfl,hcb,-,hEb⟩:=ob.form
  have kab:=ks_up oa.ks hbb
  have hba:=hba.trans (hbb.mono hba.size)
  clear ob hbb
  go_wp2_with fail
  refine (HDs.out wb kab hEb).mono ?_
  rintro e wy ⟨yn,yp,ys,yv,rfl,oy,ty,-,hby⟩
  obtain ⟨S1,s1,S2,s2,rfl,rfl⟩:=oy.slices
  obtain ⟨T1,t1,rfl,-,-,-⟩:=ty.form
  obtain ⟨V5,hV5⟩:∃ z,wy.alloc (.cells #[.slice S1 (deskSay D ls).1.now.length s1,.slice S2 (deskSay D ls).1.past.length s2] 31)=z:=⟨_,rfl⟩
  have hbyz:Below wy.heap.size wy V5:=by rw [<- hV5];exact (Below.refl _ wy).alloc (Nat.le_refl _) _
  have b6:V5.heap[wy.heap.size]?=some (.cells #[.slice S1 (deskSay D ls).1.now.length s1,.slice S2 (deskSay D ls).1.past.length s2] 31 (0,0)):=by rw [<- hV5];exact heap_alloc_new _ _
  have hbV:Below w3.heap.size w3 V5:=hba.trans ((hby.trans (hbyz.mono hby.size)).mono hba.size)
  have hBy:w3.heap.size<=wy.heap.size:=Nat.le_trans hba.size hby.size
  have oz:=(oy.below hbyz (Nat.le_refl _)).mono hba.size
  have tz:=ty.below hbyz (Nat.le_refl _)
  have HT6:=Lib.hid (fun W (hb:Below V5.heap.size V5 W)=>(tz.below hb (Nat.le_refl _)).isOf.2)
  obtain ⟨B6,hB6e⟩:∃ b,wy.heap.size=b:=⟨_,rfl⟩
  rw [hB6e] at b6 hBy
  have hB6:=hBy
  have hb6:=hbV
  have o6:=oz
  clear hbyz oy oa hby hba oz hbV hBy ty tz
  ·have hl6:=(Array.getElem?_eq_some_iff.1 b6).1
   have H6:=Lib.hid (fun W (hb:Below V5.heap.size V5 W)=>show W.cell? ⟨B6,0,none⟩=some (.slice S1 (deskSay D ls).1.now.length s1)∧W.cell? ⟨B6,1,none⟩=some (.slice S2 (deskSay D ls).1.past.length s2) from ⟨(two_at ((hb.block B6 hl6).trans b6)).1,(two_at ((hb.block B6 hl6).trans b6)).2.1⟩)
   have HL5:=Lib.hid (fun W (hb:Below V5.heap.size V5 W)=>HL.out W (hb6.trans (hb.mono hb6.size)))
   have HTo5:=Lib.hid (fun W (hb:Below V5.heap.size V5 W)=>HTo.out W (hb6.trans (hb.mono hb6.size)))
   have hsX:=small_says (ls:=ls) (D:=D)
   obtain ⟨⟨p1,p2,p3⟩,p4⟩:=hsX
   have HE6:=Lib.hid (fun W {un up:Value} (hK:Ks W W.heap.size un up (deskSay D ls).1) (hb:Below V5.heap.size V5 W)=>c_eqDesk (deskSay D ls).1 un up _ _ W hK (ks_up o6.ks hb) p1 p2 p4)
   have hx5:=hx3.trans (hb6.mono hs3)
   obtain ⟨q0,q1⟩:=HL5.out _ (Below.refl _ V5)
   clear HL HTo HDs b6 o6 hb6
   go_wp2_with fail
   refine (HTo5.out _ (Below.refl _ _)).mono ?_
   rintro e w8 ⟨xn,xp,xs,rfl,o8,hb8⟩
   obtain ⟨E1,e1,E2,e2,rfl,rfl⟩:=o8.slices
   clear q0 q1
   obtain ⟨w9b,hw9b,hz9b,hb9b,HC9b⟩:=box_two w8 (.slice E1 D.now.length e1) (.slice E2 D.past.length e2) 31
   have hb5b:Below V5.heap.size V5 w9b:=hb8.trans (hb9b.mono hb8.size)
   clear hz9b
   go_wp2_with fail
   clear hw9b
   refine (HTe.out w9b (hx5.trans (hb5b.mono hx5.size))).mono ?_
   rintro e w9 ⟨vx,rfl,ox,hbx⟩
   obtain ⟨Fx,cx,rfl,hcx,-,hEx⟩:=ox.form
   have hb59:Below V5.heap.size V5 w9:=hb5b.trans (hbx.mono hb5b.size)
   have x9:=(o8.below hb9b (Nat.le_refl _)).below hbx (Nat.le_refl _)
   have hx0n:∀ r,(Value.slice E1 D.now.length e1).ownBlock=some r->r < w8.heap.size:=owns_lt o8.now
   have hx0i:∀ j,j < D.past.length->∀ r,(xs.getD j undef).ownBlock=some r->r < w8.heap.size:=fun j hj=>owns_lt (o8.past.inner j hj)
   have hx1n:∀ r,(Value.slice Fx ls.length cx).ownBlock=some r->w9b.heap.size<=r∧r < w9.heap.size:=fun r hr=>⟨owns_base ox r hr,owns_lt ox r hr⟩
   have HC9:=Lib.hid (fun W (hb:Below w9.heap.size w9 W)=>HC9b W (hbx.trans (hb.mono hbx.size)))
   have HK0:=Lib.hid (fun W (hb:Below w9.heap.size w9 W)=>ks_up x9.ks hb)
   have HX1:=Lib.hid (fun W (hb:Below w9.heap.size w9 W)=>ox.below hb (Nat.le_refl _))
   have HL:=HC9
   have HDi:=Lib.hid (fun W {un up:Value} {A:Option Addr} {c:Nat} (hK:Ks W W.heap.size un up D) (hE:Ss W W.heap.size A ls) (hcap:ls.length<=c) (hW:LV W W.heap.size)=>c_iDeskSay D ls un up A c W hK hsm hE hcap (by omega) hll hW)
   have hs5:=hx5.size
   have hs59:=hb59.size
   have hs8b:w8.heap.size<=w9b.heap.size:=hb9b.size
   have hs9b:w9b.heap.size<=w9.heap.size:=hbx.size
   have hs58:V5.heap.size<=w9b.heap.size:=hb5b.size
   clear hb8 hb9b HC9b hbx ox
   obtain ⟨q0,q1⟩:=HC9.out w9 (Below.refl _ _)
   go_wp2_with fail
   refine (HDi.out w9 x9.ks hEx hcx (HVV.out.at (hx5.trans (hb59.mono hs5)))).mono ?_
   rintro e wy ⟨gn,gp,gs,gv,rfl,oy,ty,apy,hby⟩
   obtain ⟨G1,g1,G2,g2,rfl,rfl⟩:=oy.slices
   obtain ⟨T9,t9,rfl,-,-,-⟩:=ty.form
   obtain ⟨V9,hV9⟩:∃ z,wy.alloc (.cells #[.slice G1 (deskSay D ls).1.now.length g1,.slice G2 (deskSay D ls).1.past.length g2] 31)=z:=⟨_,rfl⟩
   have hbyz:Below wy.heap.size wy V9:=by rw [<- hV9];exact (Below.refl _ wy).alloc (Nat.le_refl _) _
   have b9:V9.heap[wy.heap.size]?=some (.cells #[.slice G1 (deskSay D ls).1.now.length g1,.slice G2 (deskSay D ls).1.past.length g2] 31 (0,0)):=by rw [<- hV9];exact heap_alloc_new _ _
   have hb9:Below w9.heap.size w9 V9:=hby.trans (hbyz.mono hby.size)
   have hB9:w9.heap.size<=wy.heap.size:=hby.size
   have n1:∀ r,(Value.slice G1 (deskSay D ls).1.now.length g1).ownBlock=some r->r≠wy.heap.size:=fun r hr=>by have:=owns_lt oy.now r hr;omega
   have n2:∀ j,j < (deskSay D ls).1.past.length->∀ r,(gs.getD j undef).ownBlock=some r->r≠wy.heap.size:=fun j hj r hr=>by have:=owns_lt (oy.past.inner j hj) r hr;omega
   have o9:=oy.below hbyz (Nat.le_refl _)
   have s9:=ty.below hbyz (Nat.le_refl _)
   have n3:∀ r,(Value.slice T9 (deskSay D ls).2.length t9).ownBlock=some r->r≠wy.heap.size∧w9.heap.size<=r:=fun r hr=>⟨by have:=owns_lt ty r hr;omega,owns_base ty r hr⟩
   clear q0 q1
   obtain ⟨B9,hB9e⟩:∃ b,wy.heap.size=b:=⟨_,rfl⟩
   rw [hB9e] at b9 hB9 n1 n2 n3
   clear hbyz oy hby ty
   ·have hl9:=(Array.getElem?_eq_some_iff.1 b9).1
    have hb69:Below V5.heap.size V5 V9:=hb59.trans (hb9.mono hs59)
    have hs9:=hb9.size
    have hs69:=hb69.size
    obtain ⟨q0,q1⟩:=H6.out V9 hb69
    obtain ⟨q2,q3,-,-⟩:=two_at b9
    go_wp2_with fail
    refine (HE6.out V9 o9.ks hb69).mono ?_
    rintro e w10a ⟨rfl,hb10a⟩
    go_wp2_with fail
    refine (c_eqStringS (deskSay D ls).2 T9 T1 t9 t1 w10a (s9.below hb10a (Nat.le_refl _)).isOf.2 (HT6.out w10a (hb69.trans (hb10a.mono hs69))) hal).mono ?_
    rintro e w10 ⟨rfl,hb10b⟩
    have hb10:Below V9.heap.size V9 w10:=hb10a.trans (hb10b.mono hb10a.size)
    have hs10:=hb10.size
    clear hb10a hb10b
    have hb910:Below w9.heap.size w9 w10:=hb9.trans (hb10.mono hs9)
    have hb610:Below V5.heap.size V5 w10:=hb69.trans (hb10.mono hs69)
    clear q0 q1 q2 q3
    have HS:=Lib.hid (fun W (hb:Below w10.heap.size w10 W)=>show (W.cell? ⟨w8.heap.size,0,none⟩=some (.slice E1 D.now.length e1)∧W.cell? ⟨w8.heap.size,1,none⟩=some (.slice E2 D.past.length e2))∧(W.cell? ⟨w.heap.size,0,none⟩=some (.slice X1 D.now.length x1)∧W.cell? ⟨w.heap.size,1,none⟩=some (.slice X2 D.past.length x2)) from ⟨⟨(HL.out W (hb910.trans (hb.mono hb910.size))).1,(HL.out W (hb910.trans (hb.mono hb910.size))).2⟩,(HL5.out W (hb610.trans (hb.mono hb610.size))).1,(HL5.out W (hb610.trans (hb.mono hb610.size))).2⟩)
    obtain ⟨⟨q0,q1⟩,q2,q3⟩:=HS.out _ (Below.refl _ w10)
    go_wp2_with fail
    go_region_held3 (fun W=>W.cell? ⟨w8.heap.size,0,none⟩=some (.slice E1 D.now.length e1)∧W.cell? ⟨w8.heap.size,1,none⟩=some (.slice E2 D.past.length e2)∧W.cell? ⟨w.heap.size,0,none⟩=some (.slice X1 D.now.length x1)∧W.cell? ⟨w.heap.size,1,none⟩=some (.slice X2 D.past.length x2))
     (first
       | go_keep
       | exact ⟨(HS.out _ hb1012a).1.1,(HS.out _ hb1012a).1.2,(HS.out _ hb1012a).2.1,(HS.out _ hb1012a).2.2⟩
       | exact ⟨(HS.out _ hb1011).1.1,(HS.out _ hb1011).1.2,(HS.out _ hb1011).2.1,(HS.out _ hb1011).2.2⟩)
     (first
       | (go_at_call 29;(with_reducible refine (HTo5.out w10.drew (hb610.trans ((Below.refl _ w10).drew.mono hb610.size))).mono ?_);rintro e w11 ⟨cn,cp,cs7,rfl,o11,hb11⟩;have hb1011:Below w10.heap.size w10 w11:=(Below.refl _ w10).drew.trans hb11)
       | (go_at_call 30;refine (c_eqDesk D _ _ _ _ w11 (HK0.out _ (hb910.trans (hb1011.mono hb910.size))) o11.ks m1 m2 m4).mono ?_;rintro e w12a ⟨rfl,hb12⟩;have hb1012a:Below w10.heap.size w10 w12a:=hb1011.trans (hb12.mono hb1011.size)))
    have hb912a:Below w9.heap.size w9 w12a:=hb910.trans (hb1012a.mono hb910.size)
    have hb612a:Below V5.heap.size V5 w12a:=hb610.trans (hb1012a.mono hb610.size)
    clear q0 q1 q2 q3
    go_wp2_with fail
    refine (HTe.out w12a (hx5.trans (hb612a.mono hx5.size))).mono ?_
    rintro e w12b ⟨vt,rfl,ot,hbt⟩
    obtain ⟨Ft,ct,rfl,hct,-,hEt⟩:=ot.form
    go_wp2_with fail
    refine (c_eqStringS ls Fx Ft cx ct w12b (HX1.out w12b (hb912a.trans (hbt.mono hb912a.size))).isOf.2 hEt hdl).mono ?_
    rintro e w12 ⟨rfl,hbu⟩
    have hb1012:Below w10.heap.size w10 w12:=hb1012a.trans ((hbt.trans (hbu.mono hbt.size)).mono hb1012a.size)
    clear ot hbt hbu
    have hs12:=hb1012.size
    have hb912:Below w9.heap.size w9 w12:=hb910.trans (hb1012.mono hb910.size)
    have hb612:Below V5.heap.size V5 w12:=hb610.trans (hb1012.mono hb610.size)
    have hb99:Below V9.heap.size V9 w12:=hb10.trans (hb1012.mono hs10)
    have x12:=x9.below hb912 (Nat.le_refl _)
    have o12:=o9.below hb99 (Nat.le_refl _)
    have s12:=s9.below hb99 (Nat.le_refl _)
    have b12:=(hb99.block B9 hl9).trans b9
    have hall:allK D<=2097152:=by simp only [allK];omega
    have hallX:allK (deskSay D ls).1<=2097152:=by simp only [allK];omega
    obtain ⟨kx,hkx⟩:∃ kx:Nat,(1:Int)+2 * (allK D:Int)=(kx:Int):=⟨1+2 * allK D,by omega⟩
    obtain ⟨ky,hky⟩:∃ ky:Nat,kx+ls.length=ky:=⟨_,rfl⟩
    obtain ⟨kg,hkg⟩:∃ kg:Nat,(1:Int)+2 * (allK (deskSay D ls).1:Int)=(kg:Int):=⟨1+2 * allK (deskSay D ls).1,by omega⟩
    obtain ⟨kh,hkh⟩:∃ kh:Nat,kg+(deskSay D ls).2.length=kh:=⟨_,rfl⟩
    have d2:decide ((ky:Int) < 0)=false:=decide_eq_false (by omega)
    have d3:decide ((kg:Int) < 0)=false:=decide_eq_false (by omega)
    have d5:decide ((kh:Int) < 0)=false:=decide_eq_false (by omega)
    have d4:((kh:Int) != (kh:Int))=false:=by simp
    have kx0:0 < kx∧kx<=100000000:=by omega
    have kg0:0 < kg∧kg<=100000000:=by omega
    have HMx:=Lib.hid (fun W (hK:KO W w8.heap.size (.slice E1 D.now.length e1) (.slice E2 D.past.length e2) D xs)=>hK)
    have HKx:=Lib.hid hkx
    have HKy:=Lib.hid hky
    have HKg:=Lib.hid hkg
    have HKh:=Lib.hid hkh
    clear hkx hky hkg hkh HMx
    have HL12:=HL.out w12 hb912
    have ox12:=HX1.out w12 hb912
    clear HS o9 b9 x9 s9
    obtain ⟨q0,q1⟩:=HL12
    go_wp2_with fail
    have KM:=c_markDesk D 1 _ _ xs _ w12 x12 m1 m2 m3 (by omega) (by omega) (by omega)
    rw [HKx.out] at KM
    refine KM.mono ?_
    rintro e w13a ⟨rfl,-,hb13a,hB13⟩
    have hs13a:=hb13a.size
    have o13a:=o12.sameB hs13a (fun j hj hj2=>hB13 j hj2 (fun r hr=>by have:=hx0n r hr;omega) (fun i hi r hr=>by have:=hx0i i hi r hr;omega))
    have b13a:=(hB13 B9 (by omega) (fun r hr=>by have:=hx0n r hr;omega) (fun i hi r hr=>by have:=hx0i i hi r hr;omega)).trans b12
    have s13a:=s12.same7 (W:=w13a) (fun r1 hr1=>hB13 r1 (by have:=owns_lt s12 r1 hr1;omega) (fun r hr=>by have:=hx0n r hr;have:=(n3 r1 hr1).2;omega) (fun i hi r hr=>by have:=hx0i i hi r hr;have:=(n3 r1 hr1).2;omega))
    have ox13:=ox12.same7 (W:=w13a) (fun r1 hr1=>hB13 r1 (by have:=hx1n r1 hr1;omega) (fun r hr=>by have:=hx0n r hr;have:=hx1n r1 hr1;omega) (fun i hi r hr=>by have:=hx0i i hi r hr;have:=hx1n r1 hr1;omega))
    have hb613a:Below V5.heap.size V5 w13a:=hb612.trans hb13a
    clear q0 q1 x12 o12 b12 hB13 ox12 s12 KM
    go_wp2_with fail
    have KM:=c_markStringS ls kx _ _ w13a ox13 hdl kx0.1 kx0.2
    rw [HKy.out] at KM
    refine KM.mono ?_
    rintro e w13 ⟨rfl,-,hg13⟩
    have hs13:=hg13.size
    have o13:=o13a.keptRow hg13 (fun r hr=>by have:=hx1n r hr;omega)
    have b13:=(hg13.block B9 (by have:=(Array.getElem?_eq_some_iff.1 b13a).1;omega) (fun e=>by have:=hx1n B9 e.symm;omega)).trans b13a
    have hb613:Below V5.heap.size V5 w13:=hb613a.grown hg13 hb613a.size (fun r hr=>by have:=hx1n r hr;omega)
    have s13:=s13a.same7 (W:=w13) (fun r1 hr1=>hg13.block r1 (owns_lt s13a r1 hr1) (fun e=>by have:=hx1n r1 e.symm;have:=(n3 r1 hr1).2;omega))
    clear o13a b13a ox13 s13a KM
    obtain ⟨q0,q1⟩:=H6.out w13 hb613
    obtain ⟨q2,q3,-,-⟩:=two_at b13
    go_wp2_with fail
    refine (HE6.out w13 o13.ks hb613).mono ?_
    rintro e w14a ⟨rfl,hb14a⟩
    go_wp2_with fail
    refine (c_eqStringS (deskSay D ls).2 T9 T1 t9 t1 w14a (s13.below hb14a (Nat.le_refl _)).isOf.2 (HT6.out w14a (hb613.trans (hb14a.mono hb613.size))) hal).mono ?_
    rintro e w14 ⟨rfl,hb14b⟩
    have hb14:Below w13.heap.size w13 w14:=hb14a.trans (hb14b.mono hb14a.size)
    have hs14:=hb14.size
    have o14:=o13.below hb14 (Nat.le_refl _)
    have s14:=s13.below hb14 (Nat.le_refl _)
    clear hb14a hb14b
    have b14:=(hb14.block B9 (by omega)).trans b13
    have hb614:Below V5.heap.size V5 w14:=hb613.trans (hb14.mono hb613.size)
    clear q0 q1 q2 q3 o13 b13 s13
    obtain ⟨q2,q3,-,-⟩:=two_at b14
    go_wp2_with fail
    have KM:=c_markDesk (deskSay D ls).1 1 _ _ gs _ w14 o14 p1 p2 p3 (by omega) (by omega) (by omega)
    rw [HKg.out] at KM
    refine KM.mono ?_
    rintro e w15a ⟨rfl,o15a,hb15a,hB15⟩
    have hs15a:=hb15a.size
    have b15a:=(hB15 B9 (by omega) n1 n2).trans b14
    have hb615a:Below V5.heap.size V5 w15a:=hb614.trans (hb15a.mono hs59)
    have s15a:=s14.same7 (W:=w15a) (fun r1 hr1=>hB15 r1 (owns_lt s14 r1 hr1) (fun r hr e=>(apy r1 hr1).1 (e ▸ hr)) (fun i hi r hr e=>(apy r1 hr1).2.2 i hi (e ▸ hr)))
    clear q2 q3 o14 b14 hB15 s14 KM
    go_wp2_with fail
    have KM:=c_markStringS (deskSay D ls).2 kg _ _ w15a s15a hal kg0.1 kg0.2
    rw [HKh.out] at KM
    refine KM.mono ?_
    rintro e w15 ⟨rfl,s15,hg15⟩
    have hs15:=hg15.size
    have em:(markedK (deskSay D ls).1 1).past.length=(deskSay D ls).1.past.length:=markedTo_len _ _ _
    have o15:=o15a.keptAp hg15 (fun r hr=>by rw [em];exact apy r hr)
    have b15:=(hg15.block B9 (Array.getElem?_eq_some_iff.1 b15a).1 (fun e=>(n3 B9 e.symm).1 rfl)).trans b15a
    have hb615:Below V5.heap.size V5 w15:=hb615a.grown hg15 hb615a.size (fun r hr=>by have:=(n3 r hr).2;omega)
    clear o15a b15a s15a KM em
    obtain ⟨q2,q3,-,-⟩:=two_at b15
    go_wp2_with fail
    have KM:=c_heldDesk (deskSay D ls).1 1 _ _ w15 o15.ks p1 p2 p3 (by omega) (by omega)
    rw [HKg.out] at KM
    refine KM.mono ?_
    rintro e w16a ⟨rfl,hb16a⟩
    clear KM q2 q3
    go_wp2_with fail
    have KM:=c_heldStringS (deskSay D ls).2.length kg T9 t9 w16a (s15.below hb16a (Nat.le_refl _)).isOf.2 hal kg0.1 kg0.2
    rw [HKh.out] at KM
    refine KM.mono ?_
    rintro e w16 ⟨rfl,hb16b⟩
    have hb16:Below w15.heap.size w15 w16:=hb16a.trans (hb16b.mono hb16a.size)
    have hs16:=hb16.size
    have s16:=s15.below hb16 (Nat.le_refl _)
    have o16:=o15.below hb16 (Nat.le_refl _)
    have b16:=(hb16.block B9 (by omega)).trans b15
    have hb616:Below V5.heap.size V5 w16:=hb615.trans (hb16.mono hb615.size)
    clear o15 b15 HL KM s15 hb16a hb16b
    have HL:=Lib.hid (fun W (hb:Below w16.heap.size w16 W)=>HL5.out W (hb616.trans (hb.mono hb616.size)))
    have HTo:=Lib.hid (fun W (hb:Below w16.heap.size w16 W)=>HTo5.out W (hb616.trans (hb.mono hb616.size)))
    obtain ⟨q0,q1⟩:=HL.out w16 (Below.refl _ _)
    go_wp2_with fail
    refine (HTo.out w16 (Below.refl _ _)).mono ?_
    rintro e wa ⟨an,ap,as2,rfl,oa,hba⟩
    obtain ⟨A1,a1,A2,a2,rfl,rfl⟩:=oa.slices
    clear q0 q1
    go_wp2_with fail
    refine (HTe.out wa ((hx5.trans ((hb616.trans (hba.mono hb616.size)).mono hx5.size)))).mono ?_
    rintro e wb ⟨vb,rfl,ob,hbb⟩
    obtain ⟨Fb,cb,rfl,hcb,-,hEb⟩:=ob.form
    have kab:=ks_up oa.ks hbb
    have hba:=hba.trans (hbb.mono hba.size)
    clear ob hbb
    go_wp2_with fail
    refine (HDi.out wb kab hEb hcb (HVV.out.at (hx5.trans ((hb616.trans (hba.mono hb616.size)).mono hs5)))).mono ?_
    rintro e wy ⟨yn,yp,ys,yv,rfl,oy,ty,-,hby⟩
    obtain ⟨J1,j1,J2,j2,rfl,rfl⟩:=oy.slices
    obtain ⟨T7,t7,rfl,-,-,-⟩:=ty.form
    obtain ⟨V24,hV24⟩:∃ z,wy.alloc (.cells #[.slice J1 (deskSay D ls).1.now.length j1,.slice J2 (deskSay D ls).1.past.length j2] 31)=z:=⟨_,rfl⟩
    have hbyz:Below wy.heap.size wy V24:=by rw [<- hV24];exact (Below.refl _ wy).alloc (Nat.le_refl _) _
    have bh:V24.heap[wy.heap.size]?=some (.cells #[.slice J1 (deskSay D ls).1.now.length j1,.slice J2 (deskSay D ls).1.past.length j2] 31 (0,0)):=by rw [<- hV24];exact heap_alloc_new _ _
    have hbV:Below w16.heap.size w16 V24:=hba.trans ((hby.trans (hbyz.mono hby.size)).mono hba.size)
    have hBy:w16.heap.size<=wy.heap.size:=Nat.le_trans hba.size hby.size
    have oz:=(oy.below hbyz (Nat.le_refl _)).mono hba.size
    have sh:=ty.below hbyz (Nat.le_refl _)
    have hbh:=hbV
    have oh:=oz
    clear hbyz oy oa hby hba oz hbV ty
    ·have hsh:=hbh.size
     have hb624:Below V5.heap.size V5 V24:=hb616.trans (hbh.mono hb616.size)
     obtain ⟨q0,q1⟩:=H6.out V24 hb624
     obtain ⟨q2,q3,-,-⟩:=two_at bh
     go_wp2_with fail
     refine (HE6.out V24 oh.ks hb624).mono ?_
     rintro e w25a ⟨rfl,hb25a⟩
     go_wp2_with fail
     refine (c_eqStringS (deskSay D ls).2 T7 T1 t7 t1 w25a (sh.below hb25a (Nat.le_refl _)).isOf.2 (HT6.out w25a (hb624.trans (hb25a.mono hb624.size))) hal).mono ?_
     rintro e w25 ⟨rfl,hb25b⟩
     have hb25:Below V24.heap.size V24 w25:=hb25a.trans (hb25b.mono hb25a.size)
     clear hb25a hb25b
     have hb1625:Below w16.heap.size w16 w25:=hbh.trans (hb25.mono hsh)
     have o25:=o16.below hb1625 (Nat.le_refl _)
     have s25:=s16.below hb1625 (Nat.le_refl _)
     have b25:=(hb1625.block B9 (by omega)).trans b16
     clear q0 q1 q2 q3 o16 b16 s16
     obtain ⟨q2,q3,-,-⟩:=two_at b25
     go_wp2_with fail
     have KM:=c_heldDesk (deskSay D ls).1 1 _ _ w25 o25.ks p1 p2 p3 (by omega) (by omega)
     rw [HKg.out] at KM
     refine KM.mono ?_
     rintro e w26a ⟨rfl,hb26a⟩
     clear KM q2 q3
     go_wp2_with fail
     have KM:=c_heldStringS (deskSay D ls).2.length kg T9 t9 w26a (s25.below hb26a (Nat.le_refl _)).isOf.2 hal kg0.1 kg0.2
     rw [HKh.out] at KM
     refine KM.mono ?_
     rintro e w26 ⟨rfl,hb26b⟩
     have hb26:=hb26a.trans (hb26b.mono hb26a.size)
     go_wp2_with fail
     go_ret
     exact ⟨rfl,hx5.trans (((hb616.trans (hb1625.mono hb616.size)).trans (hb26.mono (hb616.trans (hb1625.mono hb616.size)).size)).mono hs5)⟩
end
section
open Go.RowKit Go.ChangeShapes Go.WideShapes Go.ChangeAt Go.Deep Go.Joins
theorem open_lawRow {H:Type} {enc:TypeId×Value->H} {W:World} {fuel:Nat} {v:Value} {y:DataW H×List MemPlace} (h:DataW.trod enc Tryz.prog W 0 (fun _=>true) true fuel 53 [v]=some y) :
  ∃ (A:Option Addr) (c:Nat) (L:List (Int×Int)),v=.slice A L.length c∧L.length<=c∧c<=maxLen∧Cs W W.heap.size A L:=by
 obtain ⟨A,n,c,rfl⟩:∃ A n c,v=.slice A n c:=by
  rcases open_slice_pairs Tryz.underlying53 Tryz.underlying156 cellsLC rfl rfl cellsI cellsI h with ⟨hcs,_⟩ | ⟨a,len,cap,m,k,V0,V1,D0,D1,P0,P1,hcs,_⟩
  ·exact ⟨none,0,0,by simpa using hcs⟩
  ·exact ⟨some a,len,cap,by simpa using hcs⟩
 obtain ⟨L,rfl,h1,h2,h3⟩:=open_lawCust (A:=A) (n:=n) (c:=c) (d:=y.1) (p:=y.2) ⟨fuel,by simpa [Value.cells] using h⟩
 exact ⟨A,c,L,rfl,h1,h2,h3⟩
theorem cellsLS:Tryz.prog.cellsOf 53=1:=by kernel_rfl
theorem open_lawRows {H:Type} {enc:TypeId×Value->H} {W:World} {fuel:Nat} {v:Value} {y:DataW H×List MemPlace} (h:DataW.trod enc Tryz.prog W 0 (fun _=>true) true fuel 54 [v]=some y) :
  ∃ (A:Option Addr) (c:Nat) (Ls:List (List (Int×Int))),v=.slice A Ls.length c∧Ls.length<=c∧c<=maxLen∧Css W W.heap.size A Ls∧∀ k,k < Ls.length->(LL Ls k).length<=maxLen:=by
 rcases open_slice1 Tryz.underlying54 cellsLS h with ⟨hcs,_⟩ | ⟨a,len,cap,m,k,V,D0,P0,hcs,_,hl,hm,hmm,_,hx⟩
 ·have hv:v=.slice none 0 0:=by simpa using hcs
  subst hv
  exact ⟨none,0,[],rfl,Nat.le_refl _,by simp [maxLen],Css.nil _ _ _,fun k hk=>by simp at hk⟩
 ·have hv:v=.slice (some a) len cap:=by simpa using hcs
  subst hv
  have hmc:m=cap:=by simpa using hmm
  subst hmc
  have each:∀ r,r < m->∃ q:Option Addr×Nat×List (Int×Int),V r=.slice q.1 q.2.2.length q.2.1∧q.2.2.length<=q.2.1∧q.2.1<=maxLen∧Cs W W.heap.size q.1 q.2.2:=by
   intro r hr
   obtain ⟨A,c,L,e,h1,h2,h3⟩:=open_lawRow (hx r hr).2
   exact ⟨(A,c,L),e,h1,h2,h3⟩
  obtain ⟨q,hq⟩:=choose_lt each
  have hLL:∀ k,k < len->LL ((List.range len).map fun r=>(q r).2.2) k=(q k).2.2:=fun k hk=>by
   rw [LL_get (by simpa using hk)];simp
  refine ⟨some a,m,(List.range len).map fun r=>(q r).2.2,by simp,by simpa using hl,hm,fun hp=>?_,fun k hk=>?_⟩
  ·simp only [List.length_map,List.length_range] at hp
   obtain ⟨b,off,spot⟩:=a
   have hc0:=(hx 0 (by omega)).1
   have hspot:spot=none:=by simpa [Addr.add] using World.cell?_spot hc0
   subst hspot
   have hadd:∀ j,(⟨b,off,none⟩:Addr).add j=⟨b,off+j,none⟩:=by
    intro j
    by_cases e:j=0 <;> simp [Addr.add,e]
   refine ⟨b,off,rfl,?_,fun k hk=>?_⟩
   ·rw [hadd] at hc0
    exact World.block_lt_of_cell? W _ hc0
   ·simp only [List.length_map,List.length_range] at hk
    have hc:=(hx k (by omega)).1
    rw [hadd] at hc
    obtain ⟨e,h1,h2,h3⟩:=hq k (by omega)
    rw [hLL k hk]
    exact ⟨(q k).1,(q k).2.1,by rw [hc,e],h1,h3⟩
  ·simp only [List.length_map,List.length_range] at hk
   obtain ⟨e,h1,h2,h3⟩:=hq k (by omega)
   rw [hLL k hk]
   omega
theorem open_lawDesk {H:Type} {enc:TypeId×Value->H} {W:World} {r:Reach} {b0:Nat} {v:Value} {d:DataW H} {p:List MemPlace} (hv:Value.okWide Tryz.prog W r b0 56 v)
  (h:DataW.Trod enc Tryz.prog W 0 (fun _=>true) true 56 v d p):∃ (u o:Value) (D:KV),v=.agg #[u,o]∧LawK W u o D:=by
 obtain ⟨c0,c1,y0,y1,n,rfl,-,-,t0,t1⟩:=open_agg2 Tryz.underlying56 (by kernel_rfl) (by kernel_rfl) hv h
 obtain ⟨A,c,L,rfl,h1,h2,h3⟩:=open_lawRow t0
 obtain ⟨B,e,Ls,rfl,h4,h5,h6,h7⟩:=open_lawRows t1
 refine ⟨_,_,⟨L,Ls⟩,rfl,⟨⟨A,c,rfl,h1,h3⟩,B,e,rfl,h4,h6⟩,?_,?_,fun k hk=>?_⟩
 ·simp only [maxLen] at h2;simp only;omega
 ·simp only [maxLen] at h5;simp only;omega
 ·have:=h7 k hk
  simp only [maxLen] at this
  omega
end
end Go.Proofs.YthpccmkagikhjaaGreatDoor

import Derived.Test.YthpccmkagikhjaaGreatDoorQReadJournal2
import Derived.Test.YthpccmkagikhjaaGreatDoorQReadJournal6
import Derived.Test.YthpccmkagikhjaaGreatDoorQReadJournal10
import Derived.Test.YthpccmkagikhjaaGreatDoorQReadJournal13
import Derived.Test.YthpccmkagikhjaaGreatDoorQReadJournal19
import Derived.BigQuiet
import Derived.ProofKit
import Derived.OpenShut
namespace Go.Proofs.YthpccmkagikhjaaGreatDoor
set_option linter.unusedVariables false
open Go.RowKit
set_option maxRecDepth 8000
set_option maxHeartbeats 4000000
section
attribute [local go_sem ↓] Go.wp_at_zero Go.wp_at_succ
theorem infoE2:(Tryz.prog.info? 39).map (fun i=>(i.zero,i.size,i.bytes))=some (some (.agg #[.int .i64 0,.int .i64 0,.int .i64 0]),3,24):=by kernel_rfl
def z41:Array Value:=madeCells #[.int .i64 0,.int .i64 0,.int .i64 0] (41 * 3)
theorem z41_list:z41.toList=flatD (List.replicate 41 ⟨0,0,0⟩):=by kernel_rfl
theorem run_make41 (W:World):(Instr.makeSlice 24 (.int .i64 41) (.int .i64 41)).run Tryz.prog W=.ok (.slice (some ⟨W.heap.size,0,none⟩) 41 41) (W.alloc (.cells z41 39)):=by
 obtain ⟨i0,hi,hz0,hz1,hz2⟩:=info_parts infoE2
 have:=run_make (P:=Tryz.prog) W 24 39 i0 _ Tryz.underlying24 hi hz0 .i64 .i64 41 41 (by omega) (by omega) (by rw [hz2];omega) (by omega)
 rw [hz1] at this
 exact this
theorem EO.made (W:World) {base:Nat} (h:base<=W.heap.size):EO (W.alloc (.cells z41 39)) base (.slice (some ⟨W.heap.size,0,none⟩) 41 41) (List.replicate 41 ⟨0,0,0⟩):=by
 refine ⟨by simp [flatD_len],.inr ⟨W.heap.size,41,z41,by simp,h,heap_alloc_new _ _,by simp,by simp [maxLen],by simp [z41,size_madeCells],?_⟩⟩
 rw [<- z41_list]
 exact List.take_of_length_le (by simp [z41,size_madeCells])
theorem c_DrawDeskRun (A:Option Addr) (n c:Nat) (w:World) (h:Bs w w.heap.size A n) (hn:n<=1048576) (hc:n<=c) :
  Calls Tryz.prog 12 #[.slice A n c] w fun e w'=>∃ vn vp D v ds,e=.returned (.tuple #[.agg #[vn,vp],v])∧DskP w' w.heap.size vn vp D∧EO w' w.heap.size v ds∧ds.length<=41∧Below w.heap.size w w':=by
 obtain ⟨w0,hw0⟩:∃ w0,w.alloc (.cells #[.slice none 0 0,.slice none 0 0] 31)=w0:=⟨_,rfl⟩
 have hz0:w0.heap.size=w.heap.size+1:=by rw [<- hw0];simp
 have hb0:Below w.heap.size w w0:=by rw [<- hw0];exact (Below.refl _ w).alloc (Nat.le_refl _) _
 have bR:w0.heap[w.heap.size]?=some (.cells #[.slice none 0 0,.slice none 0 0] 31 (0,0)):=by rw [<- hw0];exact heap_alloc_new _ _
 have h0:Bs w0 w.heap.size A n:=h.upto hb0 (Nat.le_refl _)
 clear h
 go_enter Tryz.func12,Tryz.ntmps12
 go_wp2_with fail
 clear hw0
 refine (c_l20OpenB A n c _ w.heap.size h0 (by omega) hn hc).mono ?_
 rintro e w1 ⟨r,rfl,hr,hrz,hb1⟩
 have hs1:=hb1.size
 have hrb:=hr.1
 have hrl:=hr.2.1
 have b1:=(hb1.block w.heap.size (by omega)).trans bR
 have hx1:=hb0.trans (hb1.mono (by omega))
 clear bR h0 hb1
 go_wp2_with fail
 refine (c_l20Desk w.heap.size r 0 12 _ hr (by omega) (by omega) (by omega)).mono ?_
 rintro e w2 ⟨vn,vp,D,rfl,hD,hg2,p2,hp2,hr2⟩
 have b2:=blk1 hg2 (show r≠w.heap.size by omega) b1
 have hx2:=hx1.trans (below_grown hg2 (show w.heap.size<=r by omega) (by omega))
 have hs2:=hg2.size
 obtain ⟨X1,x1,X2,x2,rfl,rfl⟩:=hD.now.slices
 obtain ⟨w3,hw3⟩:∃ w3,w2.alloc (.cells #[.slice X1 D.now.length x1,.slice X2 D.past.length x2] 31)=w3:=⟨_,rfl⟩
 have hz3:w3.heap.size=w2.heap.size+1:=by rw [<- hw3];simp
 have hb3:Below w2.heap.size w2 w3:=by rw [<- hw3];exact (Below.refl _ w2).alloc (Nat.le_refl _) _
 have bD:w3.heap[w2.heap.size]?=some (.cells #[.slice X1 D.now.length x1,.slice X2 D.past.length x2] 31 (0,0)):=by rw [<- hw3];exact heap_alloc_new _ _
 have hD3:=hD.below hb3 (Nat.le_refl _)
 have r3:=hr2.keepB hb3 (by omega) (by omega)
 have b3:=(hb3.block w.heap.size (by omega)).trans b2
 have hx3:=hx2.trans (hb3.mono (by omega))
 have hs3:=hb3.size
 clear hb3 hb0 hx1 hx2 b1 b2 hr hr2 hg2 hD
 go_wp2_with fail
 clear hw3
 refine (c_odd w.heap.size r p2 30 _ r3 (by omega) (by omega) (by omega)).mono ?_
 rintro e w4 ⟨o,rfl,hg4,hr4⟩
 have b4:=blk1 hg4 (show r≠w.heap.size by omega) b3
 have d4:=blk1 hg4 (show r≠w2.heap.size by omega) bD
 have hD4:=hD3.low hg4 (by omega)
 have hx4:=hx3.trans (below_grown hg4 (show w.heap.size<=r by omega) (by omega))
 have hs4:=hg4.size
 obtain ⟨q2,q3,-,-⟩:=two_at d4
 clear b3 bD hD3 r3 hx3 hg4
 cases o with
 | true =>
  obtain ⟨r0,r1,f0,f1⟩:=two_at b4
  have hmk:=run_make41
  obtain ⟨wd,hwd⟩:∃ z,w4.drew=z:=⟨_,rfl⟩
  have hbd:Below w4.heap.size w4 wd:=by rw [<- hwd];exact (Below.refl _ w4).drew
  have hzd:=hbd.size
  have bd:=(hbd.block w.heap.size (by omega)).trans b4
  have dd:=(hbd.block w2.heap.size (by omega)).trans d4
  have hDd:=hD4.below hbd (Nat.le_refl _)
  have hxd:=hx4.trans (hbd.mono (by omega))
  have v0:=(two_at dd).1
  have v1:=(two_at dd).2.1
  obtain ⟨wm,hwm⟩:∃ z,wd.alloc (.cells z41 39)=z:=⟨_,rfl⟩
  have hbm:Below wd.heap.size wd wm:=by rw [<- hwm];exact (Below.refl _ wd).alloc (Nat.le_refl _) _
  have hzm:=hbm.size
  have oM:EO wm wd.heap.size (.slice (some ⟨wd.heap.size,0,none⟩) 41 41) (List.replicate 41 ⟨0,0,0⟩):=by rw [<- hwm];exact EO.made _ (Nat.le_refl _)
  have bm:=(hbm.block w.heap.size (by omega)).trans bd
  have dm:=(hbm.block w2.heap.size (by omega)).trans dd
  have v2:=(two_at dm).1
  have v3:=(two_at dm).2.1
  obtain ⟨Sa,hSa⟩:∃ z,wm.setCell ⟨w.heap.size,0,none⟩ (.slice X1 D.now.length x1)=z:=⟨_,rfl⟩
  obtain ⟨Sb,hSb⟩:∃ z,Sa.setCell ⟨w.heap.size,1,none⟩ (.slice X2 D.past.length x2)=z:=⟨_,rfl⟩
  have sa:Sa.heap[w.heap.size]?=some (.cells #[(.slice X1 D.now.length x1),.slice none 0 0] 31 (0,0)):=by rw [<- hSa];exact set2a _ bm
  have s:Sb.heap[w.heap.size]?=some (.cells #[(.slice X1 D.now.length x1),(.slice X2 D.past.length x2)] 31 (0,0)):=by rw [<- hSb];exact set2b _ sa
  have s1:=(two_at bm).1
  have s2:=(two_at bm).2.2.1
  have s3:=(two_at sa).2.1
  have s4:=(two_at sa).2.2.2
  have sg:wm.grownBy Sb (some w.heap.size):=by rw [<- hSb,<- hSa];exact W2_grown _ _ _ _
  obtain ⟨Ta,hTa⟩:∃ z,wd.setCell ⟨w.heap.size,0,none⟩ (.slice X1 D.now.length x1)=z:=⟨_,rfl⟩
  obtain ⟨Tb,hTb⟩:∃ z,Ta.setCell ⟨w.heap.size,1,none⟩ (.slice X2 D.past.length x2)=z:=⟨_,rfl⟩
  have ta:Ta.heap[w.heap.size]?=some (.cells #[(.slice X1 D.now.length x1),.slice none 0 0] 31 (0,0)):=by rw [<- hTa];exact set2a _ bd
  have t:Tb.heap[w.heap.size]?=some (.cells #[(.slice X1 D.now.length x1),(.slice X2 D.past.length x2)] 31 (0,0)):=by rw [<- hTb];exact set2b _ ta
  have t1:=(two_at bd).1
  have t2:=(two_at bd).2.2.1
  have t3:=(two_at ta).2.1
  have t4:=(two_at ta).2.2.2
  have tg:wd.grownBy Tb (some w.heap.size):=by rw [<- hTb,<- hTa];exact W2_grown _ _ _ _
  have zt:=World.grownBy.size tg
  have zs:=World.grownBy.size sg
  obtain ⟨Tm,hTm⟩:∃ z,Tb.alloc (.cells z41 39)=z:=⟨_,rfl⟩
  have hbt:Below Tb.heap.size Tb Tm:=by rw [<- hTm];exact (Below.refl _ Tb).alloc (Nat.le_refl _) _
  have tm:=(hbt.block w.heap.size (by omega)).trans t
  have oT:EO Tm w.heap.size (.slice (some ⟨Tb.heap.size,0,none⟩) 41 41) (List.replicate 41 ⟨0,0,0⟩):=by rw [<- hTm];exact EO.made _ (by omega)
  have oS:EO Sb w.heap.size (.slice (some ⟨wd.heap.size,0,none⟩) 41 41) (List.replicate 41 ⟨0,0,0⟩):=(oM.grownR sg (fun k e=>by cases e;omega)).mono (by omega)
  have hDS:=(hDd.below hbm (Nat.le_refl _)).low sg (show w.heap.size < w1.heap.size by omega)
  have hDT:=(hDd.low tg (show w.heap.size < w1.heap.size by omega)).below hbt (Nat.le_refl _)
  have hXS:=(hxd.trans (hbm.mono (by omega))).grown sg (by omega) (fun k e=>by cases e;exact Nat.le_refl _)
  have hXT:=(hxd.grown tg (by omega) (fun k e=>by cases e;exact Nat.le_refl _)).trans (hbt.mono (by omega))
  clear hbm hbt hbd bd dd bm dm hxd hDd oM
  go_wp2_with fail
  go_region
  all_goals go_wp2_with fail
  all_goals first
   | (have k0:=cell_of_row _ w.heap.size 0 _ _ _ tm;have k1:=cell_of_row _ w.heap.size 1 _ _ _ tm;refine bodyPost_ret (v:=.tuple #[.agg #[(.slice X1 D.now.length x1),(.slice X2 D.past.length x2)],.slice (some ⟨Tb.heap.size,0,none⟩) 41 41]) (by simp [results,Tryz.f12,go_sem,k0,k1]) rfl ?_;exact ⟨_,_,D,_,(List.replicate 41 ⟨0,0,0⟩),rfl,hDT.mono (by omega),oT,by first | (simp;done) | omega,hXT⟩)
   | (have k0:=cell_of_row _ w.heap.size 0 _ _ _ s;have k1:=cell_of_row _ w.heap.size 1 _ _ _ s;refine bodyPost_ret (v:=.tuple #[.agg #[(.slice X1 D.now.length x1),(.slice X2 D.past.length x2)],.slice (some ⟨wd.heap.size,0,none⟩) 41 41]) (by simp [results,Tryz.f12,go_sem,k0,k1]) rfl ?_;exact ⟨_,_,D,_,(List.replicate 41 ⟨0,0,0⟩),rfl,hDS.mono (by omega),oS,by first | (simp;done) | omega,hXS⟩)
 | false =>
  obtain ⟨wd,hwd⟩:∃ z,w4.drew=z:=⟨_,rfl⟩
  have hbd:Below w4.heap.size w4 wd:=by rw [<- hwd];exact (Below.refl _ w4).drew
  have hzd:=hbd.size
  have bd:=(hbd.block w.heap.size (by omega)).trans b4
  have dd:=(hbd.block w2.heap.size (by omega)).trans d4
  have hDd:=hD4.below hbd (Nat.le_refl _)
  have hxd:=hx4.trans (hbd.mono (by omega))
  have rd:=hr4.keepB hbd (by omega) (by omega)
  have v0:=(two_at dd).1
  have v1:=(two_at dd).2.1
  obtain ⟨Ta,hTa⟩:∃ z,wd.setCell ⟨w.heap.size,0,none⟩ (.slice X1 D.now.length x1)=z:=⟨_,rfl⟩
  obtain ⟨Tb,hTb⟩:∃ z,Ta.setCell ⟨w.heap.size,1,none⟩ (.slice X2 D.past.length x2)=z:=⟨_,rfl⟩
  have ta:Ta.heap[w.heap.size]?=some (.cells #[(.slice X1 D.now.length x1),.slice none 0 0] 31 (0,0)):=(by rw [<- hTa];exact set2a _ bd)
  have t:Tb.heap[w.heap.size]?=some (.cells #[(.slice X1 D.now.length x1),(.slice X2 D.past.length x2)] 31 (0,0)):=(by rw [<- hTb];exact set2b _ ta)
  have t1:=(two_at bd).1
  have t2:=(two_at bd).2.2.1
  have t3:=(two_at ta).2.1
  have t4:=(two_at ta).2.2.2
  have tg:wd.grownBy Tb (some w.heap.size):=(by rw [<- hTb,<- hTa];exact W2_grown _ _ _ _)
  have zt:=World.grownBy.size tg
  have rs:Rd Tb w.heap.size r (p2+1):=rd.other tg (by omega) (Nat.le_refl _)
  have hDs:=hDd.low tg (show w.heap.size < w1.heap.size by omega)
  have hXs:=hxd.grown tg (by omega) (fun k e=>by cases e;exact Nat.le_refl _)
  clear hbd
  go_wp2_with fail
  go_region_with (first
   | (go_at_call 48;(with_reducible refine (c_l20Deeds w.heap.size r (p2+1) D.now X1 x1 wd rd (by omega) hDd.len hDd.bd (hDd.cs (by omega)).2).mono ?_);rintro e w5 ⟨v5,ds,rfl,o5,hl5,hg5,q5,hq5,hr5⟩;have z5:=World.grownBy.size hg5;have u5:=(two_at (blk1 hg5 (show r≠w2.heap.size by omega) dd)).1;have u6:=(two_at (blk1 hg5 (show r≠w2.heap.size by omega) dd)).2.1;have b5:=blk1 hg5 (show r≠w.heap.size by omega) bd;obtain ⟨Wa,hWa⟩:∃ z,w5.setCell ⟨w.heap.size,0,none⟩ (.slice X1 D.now.length x1)=z:=⟨_,rfl⟩;obtain ⟨Wb,hWb⟩:∃ z,Wa.setCell ⟨w.heap.size,1,none⟩ (.slice X2 D.past.length x2)=z:=⟨_,rfl⟩;have ma:Wa.heap[w.heap.size]?=some (.cells #[(.slice X1 D.now.length x1),.slice none 0 0] 31 (0,0)):=(by rw [<- hWa];exact set2a _ b5);have m:Wb.heap[w.heap.size]?=some (.cells #[(.slice X1 D.now.length x1),(.slice X2 D.past.length x2)] 31 (0,0)):=(by rw [<- hWb];exact set2b _ ma);have m1:=(two_at b5).1;have m2:=(two_at b5).2.2.1;have m3:=(two_at ma).2.1;have m4:=(two_at ma).2.2.2;have mg:w5.grownBy Wb (some w.heap.size):=(by rw [<- hWb,<- hWa];exact W2_grown _ _ _ _);have hDW:=(hDd.low hg5 (show r < w1.heap.size by omega)).low mg (show w.heap.size < w1.heap.size by omega);have oW:=Lib.hid ((o5.grownR mg (fun k e=>by cases e;omega)).mono (show w.heap.size<=wd.heap.size by omega));have hXW:=(hxd.trans (below_grown hg5 (show w.heap.size<=r by omega) (by omega))).grown mg (by omega) (fun k e=>by cases e;exact Nat.le_refl _))
   | (go_at_call 48;(with_reducible refine (c_l20Deeds w.heap.size r (p2+1) D.now X1 x1 Tb rs (by omega) hDs.len hDs.bd (hDs.cs (by omega)).2).mono ?_);rintro e w5 ⟨v5,ds,rfl,o5,hl5,hg5,q5,hq5,hr5⟩;have z5:=World.grownBy.size hg5;have m:=blk1 hg5 (show r≠w.heap.size by omega) t;have hDW:=hDs.low hg5 (show r < w1.heap.size by omega);have oW:=Lib.hid (o5.mono (show w.heap.size<=Tb.heap.size by omega));have hXW:=hXs.trans (below_grown hg5 (show w.heap.size<=r by omega) (by omega))))
  all_goals go_wp2_with fail
  all_goals (have k0:=cell_of_row _ w.heap.size 0 _ _ _ m;have k1:=cell_of_row _ w.heap.size 1 _ _ _ m;refine bodyPost_ret (v:=.tuple #[.agg #[(.slice X1 D.now.length x1),(.slice X2 D.past.length x2)],v5]) (by simp [results,Tryz.f12,go_sem,k0,k1]) rfl ?_;exact ⟨_,_,D,_,ds,rfl,hDW.mono (by omega),oW.out,by first | (simp;done) | omega,hXW⟩)
def lit6:Array Value:=#[.string (bs []),.string (bs [48]),.string (bs [32]),.string (bs [10]),.string (bs [45]),.string (bs [98,97,99,107])]
theorem lit6_val (x:Nat) (hx:(x:Int) < 6):∃ y:ByteArray,y.size<=4∧∀ (W:World) (b:Nat),W.heap[b]?=some (.cells lit6 9 (0,0))->W.cell? ⟨b,x,none⟩=some (.string y):=by
 rcases (show x=0∨x=1∨x=2∨x=3∨x=4∨x=5 by omega) with rfl | rfl | rfl | rfl | rfl | rfl
 ·exact ⟨bs [],by simp [bs_size],fun W b h=>cell_of_row W b 0 _ _ _ h⟩
 ·exact ⟨bs [48],by simp [bs_size],fun W b h=>cell_of_row W b 1 _ _ _ h⟩
 ·exact ⟨bs [32],by simp [bs_size],fun W b h=>cell_of_row W b 2 _ _ _ h⟩
 ·exact ⟨bs [10],by simp [bs_size],fun W b h=>cell_of_row W b 3 _ _ _ h⟩
 ·exact ⟨bs [45],by simp [bs_size],fun W b h=>cell_of_row W b 4 _ _ _ h⟩
 ·exact ⟨bs [98,97,99,107],by simp [bs_size],fun W b h=>cell_of_row W b 5 _ _ _ h⟩
theorem c_l20Spoil (base r p:Nat) (s:ByteArray) (hs:s.size<=900) (w:World) (h:Rd w base r p) (hp:p<=900000000) :
  Calls Tryz.prog 42 #[.pointer (some ⟨r,0,none⟩),.string s] w fun e w'=>∃ s':ByteArray,e=.returned (.string s')∧s'.size<=s.size+4∧w.grownBy w' (some r)∧∃ p',p'<=p+2∧Rd w' base r p':=by
 have hrw:=h.2.1
 have hbr:=h.1
 by_cases h0:s.size=0
 ·have hz:((s.size:Int) == 0)=true:=beq_iff_eq.2 (by omega)
  go_enter Tryz.func42,Tryz.ntmps42
  go_wp2_with fail
  go_ret
  exact ⟨bs [10],rfl,by rw [bs_size];simp,World.grownBy.refl _ _,p,by omega,h⟩
 ·have hz:((s.size:Int) == 0)=false:=beq_eq_false_iff_ne.2 (by omega)
  go_enter Tryz.func42,Tryz.ntmps42
  go_wp2_with fail
  refine (c_pickI base r p _ _ h (by omega) (by omega) (by omega)).mono ?_
  rintro e w1 ⟨k,hk,rfl,hg1,hr1⟩
  obtain ⟨a1,ha1⟩:∃ a1,s.extract 0 k=a1:=⟨_,rfl⟩
  obtain ⟨a2,ha2⟩:∃ a2,s.extract (k+1) s.size=a2:=⟨_,rfl⟩
  have z1:a1.size<=s.size:=by rw [<- ha1];simp;omega
  have z2:a1.size+1+a2.size=s.size:=by rw [<- ha1,<- ha2];simp;omega
  obtain ⟨wd,hwd⟩:∃ z,w1.drew=z:=⟨_,rfl⟩
  have hbd:Below w1.heap.size w1 wd:=by rw [<- hwd];exact (Below.refl _ w1).drew
  obtain ⟨wl,hwl⟩:∃ z,wd.alloc (.cells #[.string ⟨#[]⟩,.string ⟨#[48]⟩,.string ⟨#[32]⟩,.string ⟨#[10]⟩,.string ⟨#[45]⟩,.string ⟨#[98,97,99,107]⟩] 9)=z:=⟨_,rfl⟩
  have hbl:Below wd.heap.size wd wl:=by rw [<- hwl];exact (Below.refl _ wd).alloc (Nat.le_refl _) _
  have bl:wl.heap[wd.heap.size]?=some (.cells #[.string ⟨#[]⟩,.string ⟨#[48]⟩,.string ⟨#[32]⟩,.string ⟨#[10]⟩,.string ⟨#[45]⟩,.string ⟨#[98,97,99,107]⟩] 9 (0,0)):=by rw [<- hwl];exact heap_alloc_new _ _
  have hzd:=hbd.size
  have hzl:=hbl.size
  have hz1:=hg1.size
  have rd:=hr1.keepB hbd (by have:=hr1.2.1;omega) (by have:=hr1.2.1;omega)
  have rl:=rd.keepB hbl (by have:=rd.2.1;omega) (by have:=rd.2.1;omega)
  have gd:=grown_thenB hg1 (hbd.mono (by omega))
  have gl:=grown_thenB gd (hbl.mono (by omega))
  have p0:(0:Int)<=(k:Int):=by omega
  have p1:(k:Int)<=(s.size:Int):=by omega
  have p2:(k:Int)+1<=(s.size:Int):=by omega
  have p6:(s.size:Int)<=(s.size:Int):=Int.le_refl _
  have p7:(0:Int)<=(k:Int)+1:=by omega
  have p8:((k:Int)+1).toNat=k+1:=by omega
  have p9:IntKind.i64.wrap ((k:Int)+1)=(k:Int)+1:=IntWalk.i64_in _ (by omega)
  have hrd:=rd.2.1
  go_wp2_with fail
  go_region_with (first
   | (go_at_call 41;(with_reducible refine (c_pickI base r (p+1) 6 wd rd (by omega) (by omega) (by omega)).mono ?_);rintro e w5 ⟨x,hx,rfl,hg5,hr5⟩;obtain ⟨y,hy,HL⟩:=lit6_val x hx;obtain ⟨t1,ht1⟩:∃ t1,a1++y=t1:=⟨_,rfl⟩;obtain ⟨t2,ht2⟩:∃ t2,t1++a2=t2:=⟨_,rfl⟩;have zz1:t1.size=a1.size+y.size:=(by rw [<- ht1];exact ByteArray.size_append);have zz2:t2.size=t1.size+a2.size:=(by rw [<- ht2];exact ByteArray.size_append);have zq1:¬ (a1.size+y.size > 9223372036854775807):=(by omega);have zq2:¬ (t1.size+a2.size > 9223372036854775807):=(by omega);obtain ⟨wz,hwz⟩:∃ z,w5.alloc (.cells #[.string ⟨#[]⟩,.string ⟨#[48]⟩,.string ⟨#[32]⟩,.string ⟨#[10]⟩,.string ⟨#[45]⟩,.string ⟨#[98,97,99,107]⟩] 9)=z:=⟨_,rfl⟩;have hbz:Below w5.heap.size w5 wz:=(by rw [<- hwz];exact (Below.refl _ w5).alloc (Nat.le_refl _) _);have c1:=HL wz w5.heap.size (by rw [<- hwz];exact heap_alloc_new _ _);have gF:=grown_thenB (gd.trans hg5) (hbz.mono (by have:=World.grownBy.size gd;have:=World.grownBy.size hg5;omega));have rF:=hr5.keepB hbz (by have:=hr5.2.1;omega) (by have:=hr5.2.1;omega))
   | (go_at_call 41;(with_reducible refine (c_pickI base r (p+1) 6 wl rl (by omega) (by omega) (by omega)).mono ?_);rintro e w5 ⟨x,hx,rfl,hg5,hr5⟩;obtain ⟨y,hy,HL⟩:=lit6_val x hx;obtain ⟨t1,ht1⟩:∃ t1,a1++y=t1:=⟨_,rfl⟩;obtain ⟨t2,ht2⟩:∃ t2,t1++a2=t2:=⟨_,rfl⟩;have zz1:t1.size=a1.size+y.size:=(by rw [<- ht1];exact ByteArray.size_append);have zz2:t2.size=t1.size+a2.size:=(by rw [<- ht2];exact ByteArray.size_append);have zq1:¬ (a1.size+y.size > 9223372036854775807):=(by omega);have zq2:¬ (t1.size+a2.size > 9223372036854775807):=(by omega);have c1:=HL w5 wd.heap.size (blk1 hg5 (by omega) bl);have gF:=gl.trans hg5;have rF:=hr5))
  all_goals
   go_wp2_with fail
   go_ret
   exact ⟨t2,rfl,by omega,gF,p+1+1,by omega,rF⟩
theorem deedL_len (d:DV):(deedL d).length<=20:=by
 have h2:∀ n:Int,0<=n->n<=99->(numL n.toNat).length<=2:=fun n h0 h1=>numL_len 1 n.toNat (by omega)
 rcases deed_ways d with h | ⟨-,ha,hb,h⟩ | ⟨-,ha,-,h⟩ | ⟨-,ha,-,h⟩ | ⟨-,h⟩ | ⟨-,h⟩
 ·rw [h];simp
 ·have:=h2 d.a ha.1 ha.2
  have:=h2 d.b hb.1 hb.2
  rw [h];simp [wCome];omega
 ·have:=h2 d.a ha.1 ha.2
  rw [h];simp [wNeed];omega
 ·have:=h2 d.a ha.1 ha.2
  rw [h];simp [wLater];omega
 ·rw [h];simp [wGo]
 ·rw [h];simp [wBack]
end
section
attribute [local go_sem ↓] Go.wp_at_zero Go.wp_at_succ
def z41s:Array Value:=madeCells #[.string ⟨#[]⟩] (41 * 1)
theorem z41s_list:z41s.toList=(List.replicate 41 ([]:List UInt8)).map sv:=by kernel_rfl
theorem SO.made (W:World) {base:Nat} (h:base<=W.heap.size):SO (W.alloc (.cells z41s 9)) base (.slice (some ⟨W.heap.size,0,none⟩) 41 41) (List.replicate 41 []):=by
 refine ⟨by simp,.inr ⟨W.heap.size,41,z41s,by simp,h,heap_alloc_new _ _,by simp,by simp [maxLen],by simp [z41s,size_madeCells],?_⟩⟩
 rw [<- z41s_list]
 exact List.take_of_length_le (by simp [z41s,size_madeCells])
end
section
attribute [local go_sem ↓] Go.wp_at_zero Go.wp_at_succ
theorem c_sameCus (L M:List (Int×Int)) (A B:Option Addr) (BA BB c d:Nat) (w:World) (hA:Cs w BA A L) (hB:Cs w BB B M) (hx:L.length<=140737488351232) (hy:M.length<=140737488351232) :
  Calls Tryz.prog 60 #[.slice A L.length c,.slice B M.length d] w fun e w'=>e=.returned (.bool (decide (L=M)))∧Below w.heap.size w w':=by
 go_enter Tryz.func60,Tryz.ntmps60
 by_cases hl:L.length=M.length
 ·have hd:((L.length:Int) != (M.length:Int))=false:=by simp [hl]
  have HL:=Lib.hid hl
  clear hl
  go_wp2_with fail
  go_loopw [5] (fun i wr=>∃ k n:Nat,k<=L.length∧i=.int .i64 k∧wr=w.drewN n∧Hid (∀ i,i < k->X L i=X M i∧Y L i=Y M i)) (fun i _=>L.length - (intOf i).toNat)
  case atStart=>exact ⟨0,0,Nat.zero_le _,rfl,rfl,Lib.hid fun i h=>by omega⟩
  case round =>
   obtain ⟨k,n,hk,rfl,rfl,HE⟩:=hrel
   by_cases hlt:k < L.length
   ·have hlm:k < M.length:=by have:=HL.out;omega
    obtain ⟨b,off,rfl,hlb,hc⟩:=hA (by omega)
    obtain ⟨b2,off2,rfl,hlb2,hc2⟩:=hB (by omega)
    obtain ⟨c1,c3⟩:=hc k hlt
    obtain ⟨c2,c4⟩:=hc2 k hlm
    have hNE:¬ (X L k=X M k∧Y L k=Y M k)->¬ L=M:=fun h e=>h (by rw [e];exact ⟨rfl,rfl⟩)
    clear hc hc2
    by_cases e1:X L k=X M k
    ·by_cases e2:Y L k=Y M k
     ·rw [<- e1] at c2
      rw [<- e2] at c4
      have HE2:Hid (∀ i,i < k+1->X L i=X M i∧Y L i=Y M i):=Lib.hid fun i hi=>by
       by_cases e:i=k
       ·subst e;exact ⟨e1,e2⟩
       ·exact HE.out i (by omega)
      clear e1 e2 hNE
      go_wp2_with fail
      go_quiet (fail)
      go_wp2_with fail
      go_roundw
      case rel=>exact ⟨k+1,_,by omega,by go_num,rfl,HE2⟩
      case measure=>simp [intOf];omega
     ·have f2:(Y L k != Y M k)=true:=by simpa using e2
      have f3:(Y L k == Y M k)=false:=by simpa using e2
      have HN:=Lib.hid (hNE fun h=>e2 h.2)
      rw [<- e1] at c2
      clear e1 e2 hNE
      go_wp2_with fail
      go_quiet (fail)
      go_wp2_with fail
      go_ret
      exact ⟨by rw [decide_eq_false HN.out];rfl,by (repeat (first | exact rfl | exact Below.refl _ _ | (with_reducible refine Below.drew ?_) | (with_reducible refine Below.drewN ?_ _) | (with_reducible refine Below.alloc ?_ ?_ _) | (with_reducible refine Below.setCell ?_ ?_ _) | (show _<=_;focus (first | omega | (simp;done) | (simp;omega)))))⟩
    ·have f2:(X L k != X M k)=true:=by simpa using e1
     have f3:(X L k == X M k)=false:=by simpa using e1
     have HN:=Lib.hid (hNE fun h=>e1 h.1)
     clear e1 hNE
     go_wp2_with fail
     go_quiet (fail)
     go_wp2_with fail
     go_ret
     exact ⟨by rw [decide_eq_false HN.out];rfl,by (repeat (first | exact rfl | exact Below.refl _ _ | (with_reducible refine Below.drew ?_) | (with_reducible refine Below.drewN ?_ _) | (with_reducible refine Below.alloc ?_ ?_ _) | (with_reducible refine Below.setCell ?_ ?_ _) | (show _<=_;focus (first | omega | (simp;done) | (simp;omega)))))⟩
   ·go_wp2_with fail
    go_ret
    have hLM:L=M:=by
     refine List.ext_getElem HL.out fun i h1 h2=>?_
     have:=HE.out i (by omega)
     have e1:L[i]=(X L i,Y L i):=by simp [X,Y,h1]
     have e2:M[i]=(X M i,Y M i):=by simp [X,Y,h2]
     rw [e1,e2,this.1,this.2]
    exact ⟨by rw [decide_eq_true hLM];rfl,by (repeat (first | exact rfl | exact Below.refl _ _ | (with_reducible refine Below.drew ?_) | (with_reducible refine Below.drewN ?_ _) | (with_reducible refine Below.alloc ?_ ?_ _) | (with_reducible refine Below.setCell ?_ ?_ _) | (show _<=_;focus (first | omega | (simp;done) | (simp;omega)))))⟩
 ·have hd:((L.length:Int) != (M.length:Int))=true:=by simpa using fun h:(L.length:Int)=M.length=>hl (by omega)
  have HL:=Lib.hid hl
  clear hl
  go_wp2_with fail
  go_ret
  exact ⟨by rw [decide_eq_false (show ¬ L=M from fun h=>HL.out (by rw [h]))];rfl,by (repeat (first | exact rfl | exact Below.refl _ _ | (with_reducible refine Below.drew ?_) | (with_reducible refine Below.drewN ?_ _) | (with_reducible refine Below.alloc ?_ ?_ _) | (with_reducible refine Below.setCell ?_ ?_ _) | (show _<=_;focus (first | omega | (simp;done) | (simp;omega)))))⟩
def eqK (D E:KV):Bool:=decide (D.now=E.now) && decide (D.past=E.past)
theorem eqK_self (D:KV):eqK D D=true:=by simp [eqK]
theorem LL_ext {P Q:List (List (Int×Int))} (hl:P.length=Q.length) (h:∀ k,k < P.length->LL P k=LL Q k):P=Q:=by
 refine List.ext_getElem hl fun i h1 h2=>?_
 have:=h i h1
 rwa [LL_get h1,LL_get h2] at this
theorem c_sameDesk (D E:KV) (vn vp un up:Value) (w:World) (hK:Ks w w.heap.size vn vp D) (hE:Ks w w.heap.size un up E) (hs:SmallK D) (ht:SmallK E) :
  Calls Tryz.prog 18 #[.agg #[vn,vp],.agg #[un,up]] w fun e w'=>e=.returned (.bool (eqK D E))∧Below w.heap.size w w':=by
 obtain ⟨w0,hw0⟩:∃ w0,(w.alloc (.cells #[vn,vp] 31)).alloc (.cells #[un,up] 31)=w0:=⟨_,rfl⟩
 have hz0:w0.heap.size=w.heap.size+2:=by rw [<- hw0];simp
 have hb0:Below w.heap.size w w0:=by rw [<- hw0];exact ((Below.refl _ w).alloc (Nat.le_refl _) _).alloc (by simp) _
 have bD:w0.heap[w.heap.size]?=some (.cells #[vn,vp] 31 (0,0)):=by rw [<- hw0];exact (Below.heap_alloc _ _ _ (by simp)).trans (heap_alloc_new _ _)
 have bE:w0.heap[w.heap.size+1]?=some (.cells #[un,up] 31 (0,0)):=by rw [<- hw0];exact heap_newK _ _ _
 have hK0:=(hK.below hb0).more (show w.heap.size<=w0.heap.size by omega)
 have hE0:=(hE.below hb0).more (show w.heap.size<=w0.heap.size by omega)
 obtain ⟨⟨An,cn,rfl,hcn,hN⟩,Ap,cp,rfl,hcp,hP⟩:=hK0
 obtain ⟨⟨Bn,dn,rfl,hdn,hM⟩,Bp,dp,rfl,hdp,hQ⟩:=hE0
 obtain ⟨hs1,hs2,hs3⟩:=hs
 obtain ⟨ht1,ht2,ht3⟩:=ht
 have HN:=Lib.hid (fun W (hb:Below w0.heap.size w0 W)=>c_sameCus D.now E.now An Bn w0.heap.size w0.heap.size cn dn W (hN.below hb) (hM.below hb) (by omega) (by omega))
 have d1:=cell_of_row _ w.heap.size 0 _ _ _ bD
 have d2:=cell_of_row _ w.heap.size 1 _ _ _ bD
 have e1:=cell_of_row _ (w.heap.size+1) 0 _ _ _ bE
 have e2:=cell_of_row _ (w.heap.size+1) 1 _ _ _ bE
 clear hK hE hN hM
 go_enter Tryz.func18,Tryz.ntmps18
 go_wp2_with fail
 refine (HN.out _ (Below.refl _ _)).mono ?_
 rintro e w1 ⟨rfl,hb1⟩
 clear hw0
 have hs1':=hb1.size
 have HCs:=Lib.hid (fun W (hb:Below w0.heap.size w0 W)=>show (W.cell? ⟨w.heap.size,1,none⟩=some (.slice Ap D.past.length cp))∧(W.cell? ⟨w.heap.size+1,1,none⟩=some (.slice Bp E.past.length dp)) from ⟨(hb.cell (p:=⟨w.heap.size,1,none⟩) (show w.heap.size < w0.heap.size by omega)).trans d2,(hb.cell (p:=⟨w.heap.size+1,1,none⟩) (show w.heap.size+1 < w0.heap.size by omega)).trans e2⟩)
 clear d1 d2 e1 e2
 obtain ⟨d2,e2⟩:=HCs.out _ hb1
 by_cases hne:D.now=E.now
 ·have HD:=Lib.hid (decide_eq_true hne)
  rw [HD.out]
  by_cases hl:D.past.length=E.past.length
  ·have hd:((D.past.length:Int) != (E.past.length:Int))=false:=by simp [hl]
   have HL:=Lib.hid hl
   have HQ:=Lib.hid hQ
   have HP:=Lib.hid hP
   clear hl hne hP hQ
   go_wp2_with fail
   clear d2 e2
   go_loopw [5] (fun i wr=>∃ k:Nat,k<=D.past.length∧i=.int .i64 k∧Below w0.heap.size w0 wr∧Hid (∀ j,j < k->LL D.past j=LL E.past j)) (fun i _=>D.past.length - (intOf i).toNat)
   case atStart=>exact ⟨0,Nat.zero_le _,rfl,hb1,Lib.hid fun i h=>by omega⟩
   case round =>
    obtain ⟨k,hk,rfl,hb,HA⟩:=hrel
    obtain ⟨d2,e2⟩:=HCs.out _ hb
    by_cases hlt:k < D.past.length
    ·have hlm:k < E.past.length:=by have:=HL.out;omega
     obtain ⟨pb,po,rfl,hpl,hpc⟩:=HP.out (by omega)
     obtain ⟨qb,qo,rfl,hql,hqc⟩:=HQ.out (by omega)
     obtain ⟨Pk,pk,p1,p2,p3⟩:=hpc k hlt
     obtain ⟨Qk,qk,q1,q2,q3⟩:=hqc k hlm
     have c1:=WB.cell (B:=w0.heap.size) (w:=wr) hpl ((hb.cell (p:=⟨pb,po+k,none⟩) hpl).trans p1)
     have c2:=WB.cell (B:=w0.heap.size) (w:=wr) hql ((hb.cell (p:=⟨qb,qo+k,none⟩) hql).trans q1)
     have c3:=WB.cell (B:=w0.heap.size) (w:=wr) (b:=w.heap.size) (o:=1) (by omega) d2
     have c4:=WB.cell (B:=w0.heap.size) (w:=wr) (b:=w.heap.size+1) (o:=1) (by omega) e2
     have z1:(0:Int)<=(k:Int):=by omega
     have z2:(k:Int) < (D.past.length:Int):=by omega
     have z3:(k:Int) < (E.past.length:Int):=by omega
     have hsz:=hb.size
     have HS:=Lib.hid (fun W (hW:Below w0.heap.size wr W)=>c_sameCus (LL D.past k) (LL E.past k) Pk Qk w0.heap.size w0.heap.size pk qk W (p3.below (hb.trans hW)) (q3.below (hb.trans hW)) (by have:=hs3 k hlt;omega) (by have:=ht3 k hlm;omega))
     clear hpc hqc p1 q1 p3 q3
     by_cases he:LL D.past k=LL E.past k
     ·have HT:=Lib.hid (decide_eq_true he)
      have HE:=Lib.hid he
      rw [HT.out] at HS
      clear he
      go_wp2_with fail
      refine wp_region_wb w0.heap.size (by kernel_rfl) (by kernel_rfl) ?_
      repeat (go_big_quiet_step ((go_at_call 60;exact Calls.inB hsz (HS.out _ (WB.below _)))))
      refine wpQuiet_nil ?_
      rintro w5 ⟨⟨_,hb5⟩,rfl⟩
      clear c1 c2 c3 c4
      go_wp2_with fail
      go_roundw
      case rel=>exact ⟨k+1,by omega,by go_num,hb.trans hb5,Lib.hid fun i hi=>by
       by_cases e:i=k
       ·subst e;exact HE.out
       ·exact HA.out i (by omega)⟩
      case measure=>simp [intOf];omega
     ·have HT:=Lib.hid (decide_eq_false he)
      have HE:=Lib.hid he
      rw [HT.out] at HS
      clear he
      go_wp2_with fail
      refine wp_region_wb w0.heap.size (by kernel_rfl) (by kernel_rfl) ?_
      repeat (go_big_quiet_step ((go_at_call 60;exact Calls.inB hsz (HS.out _ (WB.below _)))))
      refine wpQuiet_nil ?_
      rintro w5 ⟨⟨_,hb5⟩,rfl⟩
      clear c1 c2 c3 c4
      go_wp2_with fail
      go_ret
      have hF:eqK D E=false:=by
       have:¬ D.past=E.past:=fun h=>HE.out (by rw [h])
       simp [eqK,this]
      exact ⟨by rw [hF];rfl,(hb0.trans ((hb.trans hb5).mono (by omega)))⟩
    ·go_wp2_with fail
     go_ret
     have hT:D.past=E.past:=LL_ext HL.out fun i hi=>HA.out i (by omega)
     exact ⟨by rw [eqK,HD.out,decide_eq_true hT];rfl,hb0.trans (hb.mono (by omega))⟩
  ·have hd:((D.past.length:Int) != (E.past.length:Int))=true:=by simpa using fun h:(D.past.length:Int)=E.past.length=>hl (by omega)
   have HL:=Lib.hid hl
   clear hl hne
   go_wp2_with fail
   go_ret
   have hF:eqK D E=false:=by
    have:¬ D.past=E.past:=fun h=>HL.out (by rw [h])
    simp [eqK,this]
   exact ⟨by rw [hF];rfl,hb0.trans (hb1.mono (by omega))⟩
 ·have HD:=Lib.hid (decide_eq_false hne)
  rw [HD.out]
  clear hne
  go_wp2_with fail
  go_ret
  have hF:eqK D E=false:=by rw [eqK,HD.out];rfl
  exact ⟨by rw [hF];rfl,hb0.trans (hb1.mono (by omega))⟩
end
section
attribute [local go_sem ↓] Go.wp_at_zero Go.wp_at_succ
section
variable {w:World}
theorem app_E2 {ops:Array Oper} {rest:List Oper} {o:Oper} {a:Act} {Q:Exit->Act->World->Prop} (hgd:o.guard=none) (s x:Operand)
  (ho:o.op=.call { callee:=.builtin .append,args:=#[s,x],argTypes:=#[24,24] })
  (base:Nat) (v:Value) (L:List DV) (p q r:Int) (B:Nat) (hs:a.eval s=v) (hown:EO w base v L) (hx:a.eval x=.slice (some ⟨B,0,none⟩) 1 1)
  (hB:w.heap[B]?=some (.cells #[.int .i64 p,.int .i64 q,.int .i64 r] 39 (0,0))) (hlen:L.length<=1000000000000) (hbase:base<=w.heap.size)
  (h:∀ g cap w',EO w' base (.slice (some ⟨g,0,none⟩) (L.length+1) cap) (L++[⟨p,q,r⟩])->w.grownBy w' v.ownBlock->(v.ownBlock=some g∨g=w.heap.size)->wpList Tryz.prog ops Q rest (a.put o.dst (.slice (some ⟨g,0,none⟩) (L.length+1) cap)) w') :
  wpList Tryz.prog ops Q (o::rest) a w:=by
 obtain ⟨i0,hi,hz0,hz1,hz2⟩:=info_parts infoDe
 refine wpList_append_lies w hgd s x _ ho base 39 i0 _ 3 24 Tryz.underlying24 hi hz0 hz1 hz2 rfl (by decide) v L.length _ hs hown
  ⟨B,0,none⟩ 1 1 [.int .i64 p,.int .i64 q,.int .i64 r] hx rfl (World.news_of_block (cs:=#[.int .i64 p,.int .i64 q,.int .i64 r]) hB) (by simp [Value.oneCell']) (by decide) (by simp only [maxLen];omega) (by omega) hbase _ rfl ?_
 intro g cap w' h1 h2 h3 _
 exact h g cap w' (by simpa [EO,flatD_snoc] using h1) h2 h3
end
theorem c_l20Written (base r p:Nat) (w:World) (h:Rd w base r p) (hp:p<=700000000) :
  Calls Tryz.prog 40 #[.pointer (some ⟨r,0,none⟩)] w fun e w'=>∃ v ds,e=.returned v∧EO w' w.heap.size v ds∧ds.length<=5∧w.grownBy w' (some r)∧∃ p',p'<=p+100∧Rd w' base r p':=by
 have hrw:=h.2.1
 have hbr:=h.1
 have hb0:Below w.heap.size w (w.alloc (.cells #[] 39)):=(Below.refl _ w).alloc (Nat.le_refl _) _
 have g0:w.grownBy (w.alloc (.cells #[] 39)) (some r):=World.grownBy_alloc _ _ _
 have o0:EO (w.alloc (.cells #[] 39)) w.heap.size (.slice (some ⟨w.heap.size,0,none⟩) 0 0) []:=EO.empty _ (Nat.le_refl _)
 go_enter Tryz.func40,Tryz.ntmps40
 go_wp2_with fail
 refine (c_l20Customers0 base r p _ (h.keepB hb0 hrw (by omega)) (by omega)).mono ?_
 rintro e w1 ⟨L,v1,rfl,oc,hl1,hbd1,hg1,p1,hp1,hr1⟩
 obtain ⟨An,cn,rfl,hcn,-,hcs⟩:=oc.form
 have g1:=g0.trans hg1
 have hs1:=g1.size
 have hs01:=hg1.size
 have o1:EO w1 w.heap.size (.slice (some ⟨w.heap.size,0,none⟩) 0 0) []:=o0.grownR hg1 (fun k e=>by cases e;omega)
 have hz0:(w.alloc (.cells #[] 39)).heap.size=w.heap.size+1:=by simp
 rw [hz0] at oc hs01
 have HD:=Lib.hid (c_l20Deeds base r p1 L An cn w1 hr1 (by omega) (by omega) (bdX_of hbd1) (fun W hg=>by
  obtain ⟨A',c',e,-,-,hcs'⟩:=(oc.grownR hg (fun k e=>by cases e;omega)).form
  injection e with e1
  subst e1
  exact hcs'))
 clear g0 o0 hg1 hb0 h hr1
 go_wp2_with fail
 refine HD.out.mono ?_
 rintro e w2 ⟨v2,ds,rfl,o2,hl2,hg2,p2,hp2,hr2⟩
 obtain ⟨A2,c2,rfl,-,-,hA2⟩:=o2.form
 have g2:=g1.trans hg2
 have hs2:=g2.size
 have hs12:=hg2.size
 have o1':EO w2 w.heap.size (.slice (some ⟨w.heap.size,0,none⟩) 0 0) []:=o1.grownR hg2 (fun k e=>by cases e;omega)
 have hob2:=owns_base o2
 clear oc hcs HD o1 g1 hg2
 go_wp2_with fail
 go_loopw [3,5] (fun v kv wr=>∃ (k:Nat) (es:List DV),k<=ds.length∧kv=.int .i64 (k:Int)∧es.length<=k∧EO wr w.heap.size v es∧(∀ q,v.ownBlock=some q->q=w.heap.size∨w2.heap.size<=q)∧(∀ b,w.heap.size < b->b < w2.heap.size->wr.heap[b]?=w2.heap[b]?)∧w.grownBy wr (some r)∧w2.heap.size<=wr.heap.size∧Rd wr base r p2) (fun _ kv _=>ds.length - (intOf kv).toNat)
 case atStart=>exact ⟨0,[],by omega,rfl,by simp,o1',fun q e=>by simp [Value.ownBlock] at e;exact .inl e.symm,fun _ _ _=>rfl,g2,Nat.le_refl _,hr2⟩
 case round =>
  clear o1' g2 hr2
  obtain ⟨k,es,hk,rfl,hes,own,hobk,hkeep,gr,hzw,rd⟩:=hrel
  have hsr:=gr.size
  have p1':(0:Int)<=(k:Int):=by omega
  by_cases hlt:k < ds.length
  ·have p2':(k:Int) < (ds.length:Int):=by omega
   obtain ⟨b,off,rfl,hlb,hcc⟩:=hA2 (by omega)
   have hbb:=hob2 b
   obtain ⟨z0,z1,z2⟩:=hcc k hlt
   have hbl:w.heap.size < b:=by
    rcases o2.2 with ⟨e,_⟩ | ⟨g,cap,cur,e,hgb,-⟩
    ·cases e
    ·injection e with e1 _ _;injection e1 with e1;injection e1 with e1 _ _;omega
   have c0:=(World.cell?_of_block (a:=⟨b,off+k * 3,none⟩) (hkeep b hbl hlb)).trans z0
   have c1:=(World.cell?_of_block (a:=⟨b,off+k * 3+1,none⟩) (hkeep b hbl hlb)).trans z1
   have c2:=(World.cell?_of_block (a:=⟨b,off+k * 3+2,none⟩) (hkeep b hbl hlb)).trans z2
   obtain ⟨⟨dk,da,db⟩,hd⟩:∃ d,ZD ds k=d:=⟨_,rfl⟩
   rw [hd] at c0 c1 c2
   have HT:=Lib.hid (fun W=>c_sDeedText dk da db W)
   clear hcc z0 z1 z2 hd
   by_cases he:deedL ⟨dk,da,db⟩=[]
   ·have hq:(bs (deedL ⟨dk,da,db⟩)).toList=[]:=by rw [bs_list,he]
    have hq2:(bs (deedL ⟨dk,da,db⟩)).toList.isEmpty=true:=by rw [hq];rfl
    clear he
    go_wp2_with fail
    refine (HT.out _).mono ?_
    rintro e w5 ⟨rfl,hb5⟩
    have hs5:=hb5.size
    have o5:=own.below hb5 (Nat.le_refl _)
    go_wp2_with fail
    go_roundw
    case rel=>exact ⟨k+1,es,by omega,by go_num,by omega,o5,hobk,fun b' h1 h2=>(hb5.block b' (by omega)).trans (hkeep b' h1 h2),grown_thenB gr (hb5.mono (by omega)),by omega,rd.keepB hb5 (by have:=rd.2.1;omega) (by have:=rd.2.1;omega)⟩
    case measure=>simp [intOf];omega
   ·have hq:¬ (bs (deedL ⟨dk,da,db⟩)).toList=[]:=by rw [bs_list];exact he
    have hq2:(bs (deedL ⟨dk,da,db⟩)).toList.isEmpty=false:=by simpa using hq
    clear he
    go_wp2_with fail
    refine (HT.out _).mono ?_
    rintro e w5 ⟨rfl,hb5⟩
    have hs5:=hb5.size
    have o5:=own.below hb5 (Nat.le_refl _)
    have e0:=(hb5.cell (p:=⟨b,off+k * 3,none⟩) (show b < wr.heap.size by omega)).trans c0
    have e1:=(hb5.cell (p:=⟨b,off+k * 3+1,none⟩) (show b < wr.heap.size by omega)).trans c1
    have e2:=(hb5.cell (p:=⟨b,off+k * 3+2,none⟩) (show b < wr.heap.size by omega)).trans c2
    have g5:=grown_thenB gr (hb5.mono (show w.heap.size<=wr.heap.size by omega))
    have r5:=rd.keepB hb5 (by have:=rd.2.1;omega) (by have:=rd.2.1;omega)
    have k5:∀ b',w.heap.size < b'->b' < w2.heap.size->w5.heap[b']?=w2.heap[b']?:=fun b' h1 h2=>(hb5.block b' (by omega)).trans (hkeep b' h1 h2)
    clear c0 c1 c2 own hkeep gr rd HT
    go_wp2_with (refine app_E2 (by rfl) (.tmp 23) (.tmp 28) (by rfl) w.heap.size u3 es dk da db w5.heap.size (by rfl) (o5.alloc _) (by rfl) (heap_alloc_new _ _) (by omega) (by simp;omega) ?_;intro g cap w6 hown6 hgr6 hor6)
    have hz6:=World.grownBy.size hgr6
    simp only [World.size_alloc] at hz6 hor6
    have hb6':Below w.heap.size w5 w6:=((Below.refl _ w5).alloc (by omega) _).grown hgr6 (by simp;omega) (fun q e=>owns_base o5 q e)
    go_wp2_with fail
    go_roundw
    case rel =>
     refine ⟨k+1,es++[⟨dk,da,db⟩],by omega,by go_num,by simp;omega,by simpa using hown6,fun q e=>?_,fun b' h1 h2=>?_,grown_thenB g5 hb6',by omega,r5.keepB hb6' hrw (by omega)⟩
     ·have er:g=q:=by simpa [Value.ownBlock] using e
      subst er
      rcases hor6 with h | h
      ·exact hobk _ h
      ·right;omega
     ·exact (hgr6.block b' (by simp;omega) (fun e=>by have:=hobk b' e.symm;omega)).trans ((Below.heap_alloc _ _ _ (by omega)).trans (k5 b' h1 h2))
    case measure=>simp [intOf];omega
  ·have p2':¬ (k:Int) < (ds.length:Int):=by omega
   go_wp2_with fail
   go_ret
   exact ⟨_,rfl,es,own,by omega,gr,p2,by omega,rd⟩
end
section
attribute [local go_sem ↓] Go.wp_at_zero Go.wp_at_succ
theorem c_DrawReadJournal (A:Option Addr) (n c:Nat) (w:World) (h:Bs w w.heap.size A n) (hn:n<=1048576) (hc:n<=c) :
  Calls Tryz.prog 8 #[.slice A n c] w fun e w'=>∃ s:ByteArray,e=.returned (.string s)∧s.size<=200∧Below w.heap.size w w':=by
 go_enter Tryz.func8,Tryz.ntmps8
 go_wp2_with fail
 refine (c_l20Open A n c _ h hn hc).mono ?_
 rintro e w1 ⟨r,rfl,hr,hb1⟩
 have hs1:=hb1.size
 have hrb:=hr.1
 have hrl:=hr.2.1
 clear h
 go_wp2_with fail
 refine (c_l20Written w.heap.size r 0 w1 hr (by omega)).mono ?_
 rintro e w2 ⟨v,ds,rfl,o2,hl2,hg2,p2,hp2,hr2⟩
 have hx2:=hb1.trans (below_grown hg2 hrb hs1)
 have hs2:=hg2.size
 obtain ⟨A2,c2,rfl,-,-,hA2⟩:=o2.form
 have HJ:=Lib.hid (c_sJournalText ds A2 c2 w2 hA2 (by omega))
 have hlen:(journalL ds).length<=120:=by
  unfold journalL
  split
  ·have:=jTo_len ds;omega
  ·simp
 generalize journalL ds=l at HJ hlen
 clear o2 hA2
 go_wp2_with fail
 refine HJ.out.mono ?_
 rintro e w4 ⟨rfl,hb4⟩
 have hs4:=hb4.size
 have hx4:=hx2.trans (hb4.mono (by omega))
 have hr4:=hr2.keepB hb4 (by have:=hr2.2.1;omega) (by have:=hr2.2.1;omega)
 clear HJ
 go_wp2_with fail
 refine (c_pickI w.heap.size r p2 3 _ hr4 (by omega) (by omega) (by omega)).mono ?_
 rintro e w5 ⟨x,hx,rfl,hg5,hr5⟩
 have hx5:=hx4.trans (below_grown hg5 hrb (by omega))
 have hs5:=hg5.size
 by_cases h0:x=0
 ·subst h0
  have hz:(((0:Nat):Int) == 0)=true:=rfl
  have HS:=Lib.hid (c_l20Spoil w.heap.size r (p2+1) (bs l) (by rw [bs_size];omega) w5 hr5 (by omega))
  go_wp2_with fail
  refine HS.out.mono ?_
  rintro e w6 ⟨s',rfl,hs',hg6,-⟩
  rw [bs_size] at hs'
  go_wp2_with fail
  go_ret
  exact ⟨s',rfl,by omega,hx5.trans (below_grown hg6 hrb (by omega))⟩
 ·have hz:((x:Int) == 0)=false:=beq_eq_false_iff_ne.2 (by omega)
  by_cases h1:x=1
  ·subst h1
   have hz1:(((1:Nat):Int) == 1)=true:=rfl
   have hbl:=bs_size l
   obtain ⟨m,hm⟩:∃ m,(bs l).size=m:=⟨_,rfl⟩
   have hw:IntKind.i64.wrap ((m:Int)+1)=(m:Int)+1:=IntWalk.i64_in _ (by omega)
   have HP:=Lib.hid (c_pickI w.heap.size r (p2+1) ((m:Int)+1) w5 hr5 (by omega) (by omega) (by omega))
   have HM:=Lib.hid hm
   have HMl:=Lib.hid (show m<=120 by omega)
   rw [<- hm] at HP hw
   clear h0 hm hbl
   go_wp2_with fail
   refine HP.out.mono ?_
   rintro e w6 ⟨y,hy,rfl,hg6,-⟩
   have p1:(0:Int)<=(y:Int):=by omega
   have p2':(y:Int)<=((bs l).size:Int):=by omega
   have hx6:=hx5.trans (below_grown hg6 hrb (by omega))
   have HX:=Lib.hid (show ((bs l).extract 0 y).size<=200 by rw [extract_bs,bs_size,List.drop_zero,List.length_take];have h1:=HM.out;have h2:=HMl.out;rw [bs_size] at h1;simp [bs];omega)
   go_wp2_with fail
   go_ret
   exact ⟨_,rfl,HX.out,hx6⟩
  ·have hz1:((x:Int) == 1)=false:=beq_eq_false_iff_ne.2 (by omega)
   go_wp2_with fail
   go_ret
   exact ⟨_,rfl,by rw [bs_size];omega,hx5⟩
end
section
attribute [local go_sem ↓] Go.wp_at_zero Go.wp_at_succ
theorem c_sameDeeds (L M:List DV) (A B:Option Addr) (BA BB c d:Nat) (w:World) (hA:Ds3 w BA A L) (hB:Ds3 w BB B M) (hx:L.length<=140737488351232) (hy:M.length<=140737488351232) :
  Calls Tryz.prog 11 #[.slice A L.length c,.slice B M.length d] w fun e w'=>e=.returned (.bool (decide (L=M)))∧Below w.heap.size w w':=by
 go_enter Tryz.func11,Tryz.ntmps11
 by_cases hl:L.length=M.length
 ·have hd:((L.length:Int) != (M.length:Int))=false:=by simp [hl]
  have HL:=Lib.hid hl
  clear hl
  go_wp2_with fail
  go_loopw [5] (fun i wr=>∃ k n:Nat,k<=L.length∧i=.int .i64 k∧wr=w.drewN n∧Hid (∀ i,i < k->ZD L i=ZD M i)) (fun i _=>L.length - (intOf i).toNat)
  case atStart=>exact ⟨0,0,Nat.zero_le _,rfl,rfl,Lib.hid fun i h=>by omega⟩
  case round =>
   obtain ⟨k,n,hk,rfl,rfl,HE⟩:=hrel
   by_cases hlt:k < L.length
   ·have hlm:k < M.length:=by have:=HL.out;omega
    obtain ⟨b,off,rfl,hlb,hc⟩:=hA (by omega)
    obtain ⟨b2,off2,rfl,hlb2,hc2⟩:=hB (by omega)
    obtain ⟨c1,c3,c5⟩:=hc k hlt
    obtain ⟨c2,c4,c6⟩:=hc2 k hlm
    have hNE:¬ ZD L k=ZD M k->¬ L=M:=fun h e=>h (by rw [e])
    clear hc hc2
    obtain ⟨x,hxx⟩:∃ x,ZD L k=x:=⟨_,rfl⟩
    obtain ⟨y,hyy⟩:∃ y,ZD M k=y:=⟨_,rfl⟩
    rw [hxx] at c1 c3 c5 hNE
    rw [hyy] at c2 c4 c6 hNE
    have HXY:=Lib.hid (And.intro hxx hyy)
    clear hxx hyy
    obtain ⟨xk,xa,xb⟩:=x
    obtain ⟨yk,ya,yb⟩:=y
    simp only at c1 c2 c3 c4 c5 c6
    by_cases e1:xk=yk
    ·by_cases e2:xa=ya
     ·by_cases e3:xb=yb
      ·subst e1 e2 e3
       have HE2:Hid (∀ i,i < k+1->ZD L i=ZD M i):=Lib.hid fun i hi=>by
        by_cases e:i=k
        ·subst e;rw [HXY.out.1,HXY.out.2]
        ·exact HE.out i (by omega)
       clear hNE
       go_wp2_with fail
       go_quiet (fail)
       go_wp2_with fail
       go_roundw
       case rel=>exact ⟨k+1,_,by omega,by go_num,rfl,HE2⟩
       case measure=>simp [intOf];omega
      ·subst e1 e2
       have f2:(xb != yb)=true:=by simpa using e3
       have f3:(xb == yb)=false:=by simpa using e3
       have HN:=Lib.hid (hNE fun h=>e3 (by injection h))
       clear e3 hNE
       go_wp2_with fail
       go_quiet (fail)
       go_wp2_with fail
       go_ret
       exact ⟨by rw [decide_eq_false HN.out];rfl,by (repeat (first | exact rfl | exact Below.refl _ _ | (with_reducible refine Below.drew ?_) | (with_reducible refine Below.drewN ?_ _) | (with_reducible refine Below.alloc ?_ ?_ _) | (with_reducible refine Below.setCell ?_ ?_ _) | (show _<=_;focus (first | omega | (simp;done) | (simp;omega)))))⟩
     ·subst e1
      have f2:(xa != ya)=true:=by simpa using e2
      have f3:(xa == ya)=false:=by simpa using e2
      have HN:=Lib.hid (hNE fun h=>e2 (by injection h))
      clear e2 hNE
      go_wp2_with fail
      go_quiet (fail)
      go_wp2_with fail
      go_ret
      exact ⟨by rw [decide_eq_false HN.out];rfl,by (repeat (first | exact rfl | exact Below.refl _ _ | (with_reducible refine Below.drew ?_) | (with_reducible refine Below.drewN ?_ _) | (with_reducible refine Below.alloc ?_ ?_ _) | (with_reducible refine Below.setCell ?_ ?_ _) | (show _<=_;focus (first | omega | (simp;done) | (simp;omega)))))⟩
    ·have f2:(xk != yk)=true:=by simpa using e1
     have f3:(xk == yk)=false:=by simpa using e1
     have HN:=Lib.hid (hNE fun h=>e1 (by injection h))
     clear e1 hNE
     go_wp2_with fail
     go_quiet (fail)
     go_wp2_with fail
     go_ret
     exact ⟨by rw [decide_eq_false HN.out];rfl,by (repeat (first | exact rfl | exact Below.refl _ _ | (with_reducible refine Below.drew ?_) | (with_reducible refine Below.drewN ?_ _) | (with_reducible refine Below.alloc ?_ ?_ _) | (with_reducible refine Below.setCell ?_ ?_ _) | (show _<=_;focus (first | omega | (simp;done) | (simp;omega)))))⟩
   ·go_wp2_with fail
    go_ret
    have hLM:L=M:=by
     refine List.ext_getElem HL.out fun i h1 h2=>?_
     have:=HE.out i (by omega)
     have e1:ZD L i=L[i]:=by simp [ZD,h1]
     have e2:ZD M i=M[i]:=by simp [ZD,h2]
     rwa [e1,e2] at this
    exact ⟨by rw [decide_eq_true hLM];rfl,by (repeat (first | exact rfl | exact Below.refl _ _ | (with_reducible refine Below.drew ?_) | (with_reducible refine Below.drewN ?_ _) | (with_reducible refine Below.alloc ?_ ?_ _) | (with_reducible refine Below.setCell ?_ ?_ _) | (show _<=_;focus (first | omega | (simp;done) | (simp;omega)))))⟩
 ·have hd:((L.length:Int) != (M.length:Int))=true:=by simpa using fun h:(L.length:Int)=M.length=>hl (by omega)
  have HL:=Lib.hid hl
  clear hl
  go_wp2_with fail
  go_ret
  exact ⟨by rw [decide_eq_false (show ¬ L=M from fun h=>HL.out (by rw [h]))];rfl,by (repeat (first | exact rfl | exact Below.refl _ _ | (with_reducible refine Below.drew ?_) | (with_reducible refine Below.drewN ?_ _) | (with_reducible refine Below.alloc ?_ ?_ _) | (with_reducible refine Below.setCell ?_ ?_ _) | (show _<=_;focus (first | omega | (simp;done) | (simp;omega)))))⟩
end
section
open Go.RowKit Go.ChangeShapes Go.WideShapes Go.ChangeAt
def IsRow (k:IntKind) (w:World) (a:Option Addr) (len cap:Nat) (zs:List Int):Prop :=
 (a=none∧len=0∧cap=0∧zs=[]) ∨
 ∃ x,a=some x∧len<=cap∧cap<=maxLen∧zs.length=cap∧(∀ i,i < zs.length->w.cell? (x.add i)=some (.int k (zs.getD i 0)))∧∀ n ∈ zs,(Lit.int k n).wf=true
theorem IsRow.bs {w:World} {a:Option Addr} {len cap:Nat} {zs:List Int} (h:IsRow .u8 w a len cap zs):Bs w w.heap.size a len∧len<=cap:=by
 rcases h with ⟨rfl,rfl,rfl,rfl⟩ | ⟨x,rfl,hl,hm,hz,hcell,hwz⟩
 ·exact ⟨fun h=>by omega,Nat.le_refl _⟩
 ·refine ⟨fun h0=>?_,hl⟩
  obtain ⟨b,off,spot⟩:=x
  have hc:=hcell 0 (by omega)
  have hspot:spot=none:=by simpa [Addr.add] using World.cell?_spot hc
  subst hspot
  refine ⟨b,off,rfl,?_,fun k hk=>?_⟩
  ·exact World.block_lt_of_cell? w ⟨b,off,none⟩ (by simpa [Addr.add] using hc)
  ·have h1:=hcell k (by omega)
   have e:zs.getD k 0=zs[k]'(by omega):=by simp [List.getD,List.getElem?_eq_getElem (show k < zs.length by omega)]
   have hm:zs.getD k 0 ∈ zs:=by rw [e];exact List.getElem_mem _
   have h2:=bounds_u8 (hwz _ hm)
   refine ⟨zs.getD k 0,?_,h2.1,h2.2⟩
   rw [<- h1]
   by_cases e:k=0
   ·subst e;simp [Addr.add]
   ·simp [Addr.add,e]
end
end Go.Proofs.YthpccmkagikhjaaGreatDoor

import Derived.Test.YthpccmkagikhjaaGreatDoorQExactDeskLine7
import Derived.Test.YthpccmkagikhjaaGreatDoorQExactDeskLine10
import Derived.Test.YthpccmkagikhjaaGreatDoorQExactDeskLine11
import Derived.Test.YthpccmkagikhjaaGreatDoorQExactDeskLine12
import Derived.Test.YthpccmkagikhjaaGreatDoorQExactDeskLine13
import Derived.Test.YthpccmkagikhjaaGreatDoorQExactDeskLine14
import Derived.Test.YthpccmkagikhjaaGreatDoorQExactDeskLine15
import Derived.Test.YthpccmkagikhjaaGreatDoorQExactDeskLine16
namespace Go.Proofs.YthpccmkagikhjaaGreatDoor
set_option linter.unusedVariables false
open Go.RowKit
set_option maxRecDepth 8000
set_option maxHeartbeats 8000000
section
attribute [local go_sem ↓] Go.wp_at_zero Go.wp_at_succ
theorem ask_words {L:List (Int×Int)} {s:List UInt8} (h:∀ u ∈ [wMany,wWaits,wLeaves,wLast,wRounds,wBusy,wNeed,wLeast,wIdle],s≠u) :
  askL L s=if wordsOk (cutL 32 s)=true then askW L (ZS (cutL 32 s) 0) (digL (ZS (cutL 32 s) 1)) else wWhat:=by
 unfold askL
 rw [if_neg (h _ (by simp)),if_neg (h _ (by simp)),if_neg (h _ (by simp)),if_neg (h _ (by simp)),if_neg (h _ (by simp)),if_neg (h _ (by simp)),if_neg (h _ (by simp)),if_neg (h _ (by simp)),if_neg (h _ (by simp))]
 rfl
theorem words_no {ws:List (List UInt8)} (h:¬ (ws.length=2∧0<=digL (ZS ws 1))):wordsOk ws=false:=by
 cases e:wordsOk ws with
 | false=>rfl
 | true =>
  simp only [wordsOk,Bool.and_eq_true,decide_eq_true_eq] at e
  exact absurd ⟨e.1,e.2⟩ h
theorem words_yes {ws:List (List UInt8)} (h2:ws.length=2) (h:0<=digL (ZS ws 1)):wordsOk ws=true:=by
 simp only [wordsOk,Bool.and_eq_true,decide_eq_true_eq]
 exact ⟨h2,h⟩
theorem digL_le (l:List UInt8):digL l<=999999:=by
 unfold digL
 split
 ·rename_i h
  have p:=digOk_parts h
  have:=valN_lt l.length l rfl p.2.2
  have h6:10 ^ l.length<=10 ^ 6:=Nat.pow_le_pow_right (by omega) p.1.2
  omega
 ·omega
theorem c_lineWords (D:KV) (vn vp:Value) (s:List UInt8) (w:World) (hK:Ks w w.heap.size vn vp D) (hs:SmallK D) (hl:s.length<=100000000) (ho:deskOk D=true) (hrd:readD s=none) (hno:∀ u ∈ [wMany,wWaits,wLeaves,wLast,wRounds,wBusy,wNeed,wLeast,wIdle],s≠u) :
  Calls Tryz.prog 21 #[.agg #[vn,vp],.string (bs s)] w (LineP D s w):=by
 have HC8:=Lib.hid (cOk_len (deskOk_parts ho).2.1)
 have HC:=Lib.hid (deskOk_parts ho).2.1
 have HVa:=Lib.hid (show deskLine D s=(D,if wordsOk (cutL 32 s)=true then askW D.now (ZS (cutL 32 s) 0) (digL (ZS (cutL 32 s) 1)) else wWhat) by rw [line_ask ho hrd,ask_words hno])
 have HCut:=Lib.hid (fun W=>show Calls Tryz.prog 75 #[.string (bs s),.int .u8 32] W fun e w'=>∃ v,e=.returned v∧SO w' W.heap.size v (cutL 32 s)∧Below W.heap.size W w' from by
  have K:=c_sCut (bs s) 32 (by rw [bs_size];omega) W
  exact K)
 have HDg:=Lib.hid (fun (x:List UInt8) (hx:x.length<=1000000000) W=>show Calls Tryz.prog 76 #[.string (bs x)] W fun e w'=>e=.returned (.int .i64 (digL x))∧w'=W from c_sDigits (bs x) (by rw [bs_size];omega) W)
 have HSh:=Lib.hid (fun k=>cut_short s k)
 have q0:((bs s).toList == [109,97,110,121])=false:=by rw [bs_list];simpa [wMany] using hno wMany (by simp)
 have q1:((bs s).toList == [119,97,105,116,115])=false:=by rw [bs_list];simpa [wWaits] using hno wWaits (by simp)
 have q2:((bs s).toList == [108,101,97,118,101,115])=false:=by rw [bs_list];simpa [wLeaves] using hno wLeaves (by simp)
 have q3:((bs s).toList == [108,97,115,116])=false:=by rw [bs_list];simpa [wLast] using hno wLast (by simp)
 have q4:((bs s).toList == [114,111,117,110,100,115])=false:=by rw [bs_list];simpa [wRounds] using hno wRounds (by simp)
 have q5:((bs s).toList == [98,117,115,121])=false:=by rw [bs_list];simpa [wBusy] using hno wBusy (by simp)
 have q6:((bs s).toList == [110,101,101,100])=false:=by rw [bs_list];simpa [wNeed] using hno wNeed (by simp)
 have q7:((bs s).toList == [108,101,97,115,116])=false:=by rw [bs_list];simpa [wLeast] using hno wLeast (by simp)
 have q8:((bs s).toList == [105,100,108,101])=false:=by rw [bs_list];simpa [wIdle] using hno wIdle (by simp)
 clear hno
 obtain ⟨w0,hw0⟩:∃ w0,(w.alloc (.cells #[vn,vp] 31)).alloc (.cells #[.slice none 0 0,.slice none 0 0] 31)=w0:=⟨_,rfl⟩
 have hz0:w0.heap.size=w.heap.size+2:=by rw [<- hw0];simp
 have hb0:Below w.heap.size w w0:=by rw [<- hw0];exact ((Below.refl _ w).alloc (Nat.le_refl _) _).alloc (by simp) _
 have bD:w0.heap[w.heap.size]?=some (.cells #[vn,vp] 31 (0,0)):=by rw [<- hw0];exact (Below.heap_alloc _ _ _ (by simp)).trans (heap_alloc_new _ _)
 have bR:w0.heap[w.heap.size+1]?=some (.cells #[.slice none 0 0,.slice none 0 0] 31 (0,0)):=by rw [<- hw0];exact heap_newK _ _ _
 have hK0:=(hK.below hb0).more (show w.heap.size<=w0.heap.size by omega)
 have HO:=Lib.hid (c_sDeskOk D vn vp w0 hK0 hs)
 have d0:=cell_of_row _ w.heap.size 0 _ _ _ bD
 have d1:=cell_of_row _ w.heap.size 1 _ _ _ bD
 have H:=Lib.hid ho
 have HCp:=Lib.hid (fun (w':World) (hb:Below w0.heap.size w0 w')=>c_sCopy D vn vp w' ((hK0.below hb).more hb.size) hs)
 have HRd:=Lib.hid (fun W=>c_sReadDeed s hl W)
 rw [ho] at HO
 rw [hrd] at HRd
 have HK0:=Lib.hid hK0
 obtain ⟨⟨An,cn,rfl,hcn,hN⟩,Ap,cp,rfl,hcp,hP⟩:=hK
 clear hK0 ho hrd
 go_enter Tryz.func21,Tryz.ntmps21
 go_wp2_with fail
 refine HO.out.mono ?_
 rintro e w1 ⟨rfl,hb1⟩
 clear hw0
 have hz1:=hb1.size
 have g0:=(hb1.cell (p:=⟨w.heap.size,0,none⟩) (show w.heap.size < w0.heap.size by omega)).trans d0
 have g1:=(hb1.cell (p:=⟨w.heap.size,1,none⟩) (show w.heap.size < w0.heap.size by omega)).trans d1
 go_wp2_with fail
 refine (HCp.out _ hb1).mono ?_
 rintro e w2 ⟨un,up,us,rfl,hC,hb2⟩
 have hz2:=hb2.size
 have hx2:=hb1.trans (hb2.mono hz1)
 obtain ⟨Gn,gn,rfl,hgn,-⟩:=hC.now.formG
 obtain ⟨Gp,gp,rfl,hgp,hgm,-⟩:=hC.past.form
 obtain ⟨w3,hw3⟩:∃ w3,w2.alloc (.cells #[.slice Gn D.now.length gn,.slice Gp D.past.length gp] 31)=w3:=⟨_,rfl⟩
 have hz3:w2.heap.size < w3.heap.size:=by rw [<- hw3];simp
 have hb3:Below w2.heap.size w2 w3:=by rw [<- hw3];exact (Below.refl _ w2).alloc (Nat.le_refl _) _
 have bO:w3.heap[w2.heap.size]?=some (.cells #[.slice Gn D.now.length gn,.slice Gp D.past.length gp] 31 (0,0)):=by rw [<- hw3];exact heap_alloc_new _ _
 have hx3:=hx2.trans (hb3.mono (by omega))
 have ko3:KO w3 w1.heap.size (.slice Gn D.now.length gn) (.slice Gp D.past.length gp) D us:=hC.ko.below hb3 (Nat.le_refl _)
 clear g0 g1 hC
 go_wp2_with fail
 refine (HRd.out _).mono ?_
 rintro e w4 ⟨rfl,hb4⟩
 clear hw3
 have hz4:=hb4.size
 simp only [readV]
 have hx4:Below w0.heap.size w0 w4:=hx3.trans (hb4.mono (by omega))
 have hz34:w3.heap.size<=w4.heap.size:=hz4
 have bD4:=(hx4.block w.heap.size (by omega)).trans bD
 have bR4:=(hx4.block (w.heap.size+1) (by omega)).trans bR
 have bO4:=(hb4.block w2.heap.size hz3).trans bO
 have ko4:KO w4 w1.heap.size (.slice Gn D.now.length gn) (.slice Gp D.past.length gp) D us:=ko3.below hb4 (Nat.le_refl _)
 have hlt4:w2.heap.size < w4.heap.size:=by omega
 have bD5:=(Below.heap_alloc w4 (.cells #[.int .i64 0,.int .i64 0,.int .i64 0] 39) w.heap.size (by omega)).trans bD4
 have bR5:=(Below.heap_alloc w4 (.cells #[.int .i64 0,.int .i64 0,.int .i64 0] 39) (w.heap.size+1) (by omega)).trans bR4
 have bO5:=(Below.heap_alloc w4 (.cells #[.int .i64 0,.int .i64 0,.int .i64 0] 39) w2.heap.size hlt4).trans bO4
 have ko5:KO (w4.alloc (.cells #[.int .i64 0,.int .i64 0,.int .i64 0] 39)) w1.heap.size (.slice Gn D.now.length gn) (.slice Gp D.past.length gp) D us:=ko4.below ((Below.refl w4.heap.size w4).alloc (Nat.le_refl _) _) (Nat.le_refl _)
 have hx5:Below w0.heap.size w0 (w4.alloc (.cells #[.int .i64 0,.int .i64 0,.int .i64 0] 39)):=hx4.alloc (by omega) _
 have hs5:w4.heap.size < (w4.alloc (.cells #[.int .i64 0,.int .i64 0,.int .i64 0] 39)).heap.size:=by simp
 have e0:=cell_of_row _ w.heap.size 0 _ _ _ bD5
 have e1:=cell_of_row _ w.heap.size 1 _ _ _ bD5
 go_wp2_with fail
 generalize w4.alloc (.cells #[.int .i64 0,.int .i64 0,.int .i64 0] 39)=w5 at *
 clear q0 q1 q2 q3 q4 q5 q6 q7 q8 e0 e1
 refine (HCut.out _).mono ?_
 rintro e w6 ⟨v6,rfl,oS,hb6⟩
 have hzw6:=hb6.size
 have bO9:=(hb6.block w2.heap.size (by omega)).trans bO5
 have bR9:=(hb6.block (w.heap.size+1) (by omega)).trans bR5
 have ko9:KO w6 w1.heap.size (.slice Gn D.now.length gn) (.slice Gp D.past.length gp) D us:=ko5.below hb6 (Nat.le_refl _)
 have hx9:Below w0.heap.size w0 w6:=hx5.trans (hb6.mono (by omega))
 clear bO5 bR5 ko5 hx5
 have bO5:=bO9
 have bR5:=bR9
 have ko5:=ko9
 have hx5:=hx9
 clear bO9 bR9 ko9 hx9
 have hlw:=HSh.out 1
 generalize cutL 32 s=ws at *
 obtain ⟨A6,c6,rfl,-,-,hA6⟩:=oS.form
 clear HSh HCut oS
 by_cases h2:ws.length=2
 ·have e2:((ws.length:Int) != 2)=false:=by simp [h2]
  have e2':((ws.length:Int) == 2)=true:=beq_iff_eq.2 (by omega)
  obtain ⟨b6,o6,rfl,hb6l,hc6⟩:=hA6 (by omega)
  have c60:=hc6 0 (by omega)
  have c61:=hc6 1 (by omega)
  rw [Nat.add_zero] at c60
  (try simp only [sv] at c60 c61)
  have p2:(1:Int) < (ws.length:Int):=by omega
  have p3:(0:Int) < (ws.length:Int):=by omega
  have HDx:=Lib.hid (HDg.out (ZS ws 1) (by omega))
  have HH2:=Lib.hid h2
  have hdl:=digL_le (ZS ws 1)
  by_cases hd:0<=digL (ZS ws 1)
  ·have HVb:=Lib.hid (show deskLine D s=(D,askW D.now (ZS ws 0) (digL (ZS ws 1))) by rw [HVa.out,if_pos (words_yes h2 hd)])
   have dd:decide (digL (ZS ws 1) < 0)=false:=decide_eq_false (by omega)
   clear hc6 h2 HVa hlw
   generalize hu:ZS ws 0=u at *
   generalize hx1:ZS ws 1=x1 at *
   generalize hn0:digL x1=n at *
   clear hu hx1 hn0
   go_wp2_with fail
   refine (HDx.out _).mono ?_
   rintro e wq ⟨rfl,rfl⟩
   go_wp2_with fail
   refine (HDx.out _).mono ?_
   rintro e wq ⟨rfl,rfl⟩
   clear e2 e2' p2 c61 HDx
   have hbl6:=(hb0.trans (hx5.mono (show w.heap.size<=w0.heap.size by omega)))
   by_cases hg:u=wWork∨(u=wSum∧n < 4)∨u=wBeside
   ·rcases hg with u1 | ⟨u3,hn4⟩ | u4
    focus
     have r0:((bs u).toList == [119,111,114,107])=true:=by rw [u1,bs_list];decide
     have HX:=Lib.hid (show deskLine D s=(D,numOr (workV D.now n)) by rw [HVb.out,askW,if_pos u1])
     have hxb:=work_small D.now n
     have HF:=Lib.hid (c_sWorkAt D.now An cn n wq ((hN.below hbl6).more hbl6.size) (by have:=HC8.out;omega))
     generalize workV D.now n=x at *
     clear u1 HVb
     go_wp2_with fail
     refine HF.out.mono ?_
     rintro e w8 ⟨rfl,hb8⟩
     clear HF c60 r0
     have hzw8:=hb8.size
     have bO9:=(hb8.block w2.heap.size (by omega)).trans bO5
     have bR9:=(hb8.block (w.heap.size+1) (by omega)).trans bR5
     have ko9:KO w8 w1.heap.size (.slice Gn D.now.length gn) (.slice Gp D.past.length gp) D us:=ko5.below hb8 (Nat.le_refl _)
     have hx9:Below w0.heap.size w0 w8:=hx5.trans (hb8.mono (by omega))
     clear bO5 bR5 ko5 hx5
     have bO5:=bO9
     have bR5:=bR9
     have ko5:=ko9
     have hx5:=hx9
     clear bO9 bR9 ko9 hx9
    rotate_left
    focus
     have r0:((bs u).toList == [119,111,114,107])=false:=by rw [u3,bs_list];decide
     have r1:((bs u).toList == [111,114,100,101,114])=false:=by rw [u3,bs_list];decide
     have r2:((bs u).toList == [115,117,109])=true:=by rw [u3,bs_list];decide
     have HX:=Lib.hid (show deskLine D s=(D,numOr (sumV D.now (orderR D.now n))) by rw [HVb.out,askW,if_neg (by rw [u3];decide),if_neg (by rw [u3];decide),if_pos u3,if_pos hn4])
     have hxb:=sum_small D.now (orderR D.now n)
     have hsm:=small_order D.now n
     have HO8:=Lib.hid (c_sOrderBy D.now An cn n wq ((hN.below hbl6).more hbl6.size) (by have:=HC8.out;omega))
     have HF:=Lib.hid (fun (A8:Option Addr) (c8:Nat) (W:World) (hb:Below w.heap.size w W) (h:Is W W.heap.size A8 (orderR D.now n))=>c_sSumOf D.now (orderR D.now n) An A8 cn c8 W ((hN.below hb).more hb.size) h (by have:=HC8.out;omega) (by have:=hsm.1;omega))
     generalize hx2:sumV D.now (orderR D.now n)=x at *
     generalize orderR D.now n=xs at *
     clear u3 HVb hsm hx2
     go_wp2_with fail
     refine HO8.out.mono ?_
     rintro e wp ⟨v8,rfl,o8,hb8⟩
     obtain ⟨A8,c8,rfl,-,-,h8⟩:=o8.form
     clear HO8 c60 r0 r1 r2
     have hzwp:=hb8.size
     have bO9:=(hb8.block w2.heap.size (by omega)).trans bO5
     have bR9:=(hb8.block (w.heap.size+1) (by omega)).trans bR5
     have ko9:KO wp w1.heap.size (.slice Gn D.now.length gn) (.slice Gp D.past.length gp) D us:=ko5.below hb8 (Nat.le_refl _)
     have hx9:Below w0.heap.size w0 wp:=hx5.trans (hb8.mono (by omega))
     clear bO5 bR5 ko5 hx5
     have bO5:=bO9
     have bR5:=bR9
     have ko5:=ko9
     have hx5:=hx9
     clear bO9 bR9 ko9 hx9
     go_wp2_with fail
     refine (HF.out A8 c8 wp (hb0.trans (hx5.mono (by omega))) h8).mono ?_
     rintro e w8 ⟨rfl,hb9⟩
     clear HF h8 o8
     have hzw8:=hb9.size
     have bO9:=(hb9.block w2.heap.size (by omega)).trans bO5
     have bR9:=(hb9.block (w.heap.size+1) (by omega)).trans bR5
     have ko9:KO w8 w1.heap.size (.slice Gn D.now.length gn) (.slice Gp D.past.length gp) D us:=ko5.below hb9 (Nat.le_refl _)
     have hx9:Below w0.heap.size w0 w8:=hx5.trans (hb9.mono (by omega))
     clear bO5 bR5 ko5 hx5
     have bO5:=bO9
     have bR5:=bR9
     have ko5:=ko9
     have hx5:=hx9
     clear bO9 bR9 ko9 hx9
    rotate_left
    focus
     have r0:((bs u).toList == [119,111,114,107])=false:=by rw [u4,bs_list];decide
     have r1:((bs u).toList == [111,114,100,101,114])=false:=by rw [u4,bs_list];decide
     have r2:((bs u).toList == [115,117,109])=false:=by rw [u4,bs_list];decide
     have r3:((bs u).toList == [98,101,115,105,100,101])=true:=by rw [u4,bs_list];decide
     have HX:=Lib.hid (show deskLine D s=(D,numOr (waitSumV D.now n)) by rw [HVb.out,askW,if_neg (by rw [u4];decide),if_neg (by rw [u4];decide),if_neg (by rw [u4];decide),if_pos u4])
     have hxb:=waitsum_small D.now n
     have HF:=Lib.hid (c_sWaitSum D.now An cn n wq ((hN.below hbl6).more hbl6.size) (by have:=HC8.out;omega))
     generalize waitSumV D.now n=x at *
     clear u4 HVb
     go_wp2_with fail
     refine HF.out.mono ?_
     rintro e w8 ⟨rfl,hb8⟩
     clear HF c60 r0 r1 r2 r3
     have hzw8:=hb8.size
     have bO9:=(hb8.block w2.heap.size (by omega)).trans bO5
     have bR9:=(hb8.block (w.heap.size+1) (by omega)).trans bR5
     have ko9:KO w8 w1.heap.size (.slice Gn D.now.length gn) (.slice Gp D.past.length gp) D us:=ko5.below hb8 (Nat.le_refl _)
     have hx9:Below w0.heap.size w0 w8:=hx5.trans (hb8.mono (by omega))
     clear bO5 bR5 ko5 hx5
     have bO5:=bO9
     have bR5:=bR9
     have ko5:=ko9
     have hx5:=hx9
     clear bO9 bR9 ko9 hx9
    rotate_left
    all_goals
     by_cases hneg:x < 0
     ·have HV:=Lib.hid (show deskLine D s=(D,wNone) by rw [HX.out,numOr,if_pos hneg])
      have dneg:decide (x < 0)=true:=decide_eq_true hneg
      clear hxb
      have hrl:w.heap.size+1 < w8.heap.size:=by omega
      have hcl:w2.heap.size < w8.heap.size:=by omega
      have HBel:Hid (∀ W,w8.grownBy W (some (w.heap.size+1))->Below w.heap.size w W):=Lib.hid (fun W g=>(hb0.trans (hx5.mono (by omega))).grown g (by omega) (fun k e=>by cases e;omega))
      have HKO:Hid (∀ W,w8.grownBy W (some (w.heap.size+1))->KO W w.heap.size (.slice Gn D.now.length gn) (.slice Gp D.past.length gp) D us):=Lib.hid (fun W g=>(ko5.keptLow g (by omega)).mono (by omega))
      have HS:Hid (∀ W,w8.grownBy W (some (w.heap.size+1))->W.cell? ⟨w2.heap.size,0,none⟩=some (.slice Gn D.now.length gn)∧W.cell? ⟨w2.heap.size,1,none⟩=some (.slice Gp D.past.length gp)):=Lib.hid (fun W g=>by
       have q:=(g.block w2.heap.size hcl (by simp;omega)).trans bO5
       exact ⟨cell_of_row _ _ 0 _ _ _ q,cell_of_row _ _ 1 _ _ _ q⟩)
      have q5:=cell_of_row _ w2.heap.size 0 _ _ _ bO5
      have q6:=cell_of_row _ w2.heap.size 1 _ _ _ bO5
      have x0:=cell_of_row _ (w.heap.size+1) 0 _ _ _ bR5
      have x1:=cell_of_row _ (w.heap.size+1) 1 _ _ _ bR5
      have z0:w8.frozen? ⟨w.heap.size+1,0,none⟩=false:=unfrozen_of bR5
      have z1:w8.frozen? ⟨w.heap.size+1,1,none⟩=false:=unfrozen_of bR5
      obtain ⟨Wa,hWa⟩:∃ Wa,(w8).setCell ⟨w.heap.size+1,0,none⟩ (.slice Gn D.now.length gn)=Wa:=⟨_,rfl⟩
      obtain ⟨WX,hWX⟩:∃ WX,Wa.setCell ⟨w.heap.size+1,1,none⟩ (.slice Gp D.past.length gp)=WX:=⟨_,rfl⟩
      have bWa:=set2a (.slice Gn D.now.length gn) bR5
      (try change ((w8).setCell ⟨w.heap.size+1,0,none⟩ (.slice Gn D.now.length gn)).heap[w.heap.size+1]?=_ at bWa)
      rw [hWa] at bWa
      have xWa:=cell_of_row _ (w.heap.size+1) 1 _ _ _ bWa
      have zWa:Wa.frozen? ⟨w.heap.size+1,1,none⟩=false:=unfrozen_of bWa
      have bX:=set2b (.slice Gp D.past.length gp) bWa
      rw [hWX] at bX
      have gX:w8.grownBy WX (some (w.heap.size+1)):=(by rw [<- hWX,<- hWa];exact ((⟨rfl,rfl,rfl,Nat.le_refl _,fun _ _ _=>rfl⟩:w8.grownBy w8 (some (w.heap.size+1))).trans (grown_set1 _ _ _ _)).trans (grown_set1 _ _ _ _))
      have k0:=cell_of_row _ (w.heap.size+1) 0 _ _ _ bX
      have k1:=cell_of_row _ (w.heap.size+1) 1 _ _ _ bX
      go_wp2_with fail
      refine bodyPost_ret (v:=.tuple #[.agg #[.slice Gn D.now.length gn,.slice Gp D.past.length gp],.string (bs wNone)]) (by simp [results,Tryz.f21,go_sem,k0,k1];rfl) rfl ?_
      exact ⟨_,_,us,by rw [HV.out],by rw [HV.out];exact HKO.out _ gX,HBel.out _ gX⟩
     ·have HV:=Lib.hid (show deskLine D s=(D,numL x.toNat) by rw [HX.out,numOr,if_neg hneg])
      have dneg:decide (x < 0)=false:=decide_eq_false hneg
      have H2:=Lib.hid (fun W=>show Calls Tryz.prog 65 #[.int .i64 x] W fun e w'=>e=.returned (.string (bs (numL x.toNat)))∧Below W.heap.size W w' from by
       have K:=c_sNumber x.toNat W (by omega)
       rwa [show ((x.toNat:Nat):Int)=x by omega] at K)
      clear hxb
      go_wp2_with fail
      have hrl:w.heap.size+1 < w8.heap.size:=by omega
      have hcl:w2.heap.size < w8.heap.size:=by omega
      have HBel:Hid (∀ W,w8.grownBy W (some (w.heap.size+1))->Below w.heap.size w W):=Lib.hid (fun W g=>(hb0.trans (hx5.mono (by omega))).grown g (by omega) (fun k e=>by cases e;omega))
      have HKO:Hid (∀ W,w8.grownBy W (some (w.heap.size+1))->KO W w.heap.size (.slice Gn D.now.length gn) (.slice Gp D.past.length gp) D us):=Lib.hid (fun W g=>(ko5.keptLow g (by omega)).mono (by omega))
      have HS:Hid (∀ W,w8.grownBy W (some (w.heap.size+1))->W.cell? ⟨w2.heap.size,0,none⟩=some (.slice Gn D.now.length gn)∧W.cell? ⟨w2.heap.size,1,none⟩=some (.slice Gp D.past.length gp)):=Lib.hid (fun W g=>by
       have q:=(g.block w2.heap.size hcl (by simp;omega)).trans bO5
       exact ⟨cell_of_row _ _ 0 _ _ _ q,cell_of_row _ _ 1 _ _ _ q⟩)
      have q5:=cell_of_row _ w2.heap.size 0 _ _ _ bO5
      have q6:=cell_of_row _ w2.heap.size 1 _ _ _ bO5
      have x0:=cell_of_row _ (w.heap.size+1) 0 _ _ _ bR5
      have x1:=cell_of_row _ (w.heap.size+1) 1 _ _ _ bR5
      have z0:w8.frozen? ⟨w.heap.size+1,0,none⟩=false:=unfrozen_of bR5
      have z1:w8.frozen? ⟨w.heap.size+1,1,none⟩=false:=unfrozen_of bR5
      have G0:Hid (w8.grownBy w8.drew (some (w.heap.size+1))):=Lib.hid (grown_thenB (⟨rfl,rfl,rfl,Nat.le_refl _,fun _ _ _=>rfl⟩:w8.grownBy w8 (some (w.heap.size+1))) (Below.refl _ w8).drew)
      obtain ⟨Wa,hWa⟩:∃ Wa,(w8.drew).setCell ⟨w.heap.size+1,0,none⟩ (.slice Gn D.now.length gn)=Wa:=⟨_,rfl⟩
      obtain ⟨WX,hWX⟩:∃ WX,Wa.setCell ⟨w.heap.size+1,1,none⟩ (.slice Gp D.past.length gp)=WX:=⟨_,rfl⟩
      have bWa:=set2a (.slice Gn D.now.length gn) bR5
      (try change ((w8.drew).setCell ⟨w.heap.size+1,0,none⟩ (.slice Gn D.now.length gn)).heap[w.heap.size+1]?=_ at bWa)
      rw [hWa] at bWa
      have xWa:=cell_of_row _ (w.heap.size+1) 1 _ _ _ bWa
      have zWa:Wa.frozen? ⟨w.heap.size+1,1,none⟩=false:=unfrozen_of bWa
      have bX:=set2b (.slice Gp D.past.length gp) bWa
      rw [hWX] at bX
      have gX:w8.grownBy WX (some (w.heap.size+1)):=(by rw [<- hWX,<- hWa];exact (G0.out.trans (grown_set1 _ _ _ _)).trans (grown_set1 _ _ _ _))
      have GX:=Lib.hid gX
      go_region_held3 (fun W=>W.cell? ⟨w2.heap.size,0,none⟩=some (.slice Gn D.now.length gn)∧W.cell? ⟨w2.heap.size,1,none⟩=some (.slice Gp D.past.length gp))
       (first | go_keep | exact HS.out _ g7 | exact HS.out _ gZ | exact HS.out _ gY | exact HS.out _ g6 | exact HS.out _ gX | exact HS.out _ G0.out)
       (first
         | (go_at_call 65;(with_reducible refine (H2.out (w8.drew)).mono ?_);rintro e w7 ⟨rfl,hb7⟩;have g7:=grown_thenB G0.out (hb7.mono (World.grownBy.size G0.out));have b7:=(hb7.block (w.heap.size+1) (by have:=World.grownBy.size G0.out;omega)).trans bR5;have x0c:=cell_of_row _ (w.heap.size+1) 0 _ _ _ b7;have x1c:=cell_of_row _ (w.heap.size+1) 1 _ _ _ b7;have z0c:w7.frozen? ⟨w.heap.size+1,0,none⟩=false:=unfrozen_of b7;have z1c:w7.frozen? ⟨w.heap.size+1,1,none⟩=false:=unfrozen_of b7;obtain ⟨Wc,hWc⟩:∃ Wc,(w7).setCell ⟨w.heap.size+1,0,none⟩ (.slice Gn D.now.length gn)=Wc:=⟨_,rfl⟩;obtain ⟨WZ,hWZ⟩:∃ WZ,Wc.setCell ⟨w.heap.size+1,1,none⟩ (.slice Gp D.past.length gp)=WZ:=⟨_,rfl⟩;have bWc:=set2a (.slice Gn D.now.length gn) b7;(try change ((w7).setCell ⟨w.heap.size+1,0,none⟩ (.slice Gn D.now.length gn)).heap[w.heap.size+1]?=_ at bWc);rw [hWc] at bWc;have xWc:=cell_of_row _ (w.heap.size+1) 1 _ _ _ bWc;have zWc:Wc.frozen? ⟨w.heap.size+1,1,none⟩=false:=unfrozen_of bWc;have bZ:=set2b (.slice Gp D.past.length gp) bWc;rw [hWZ] at bZ;have gZ:w8.grownBy WZ (some (w.heap.size+1)):=(by rw [<- hWZ,<- hWc];exact (g7.trans (grown_set1 _ _ _ _)).trans (grown_set1 _ _ _ _)))
         | (go_at_call 65;(with_reducible refine (H2.out (WX)).mono ?_);rintro e w7 ⟨rfl,hb7⟩;have g7:=grown_thenB GX.out (hb7.mono (World.grownBy.size GX.out));have b7:=(hb7.block (w.heap.size+1) (by have:=World.grownBy.size GX.out;omega)).trans bX;have x0c:=cell_of_row _ (w.heap.size+1) 0 _ _ _ b7;have x1c:=cell_of_row _ (w.heap.size+1) 1 _ _ _ b7;have z0c:w7.frozen? ⟨w.heap.size+1,0,none⟩=false:=unfrozen_of b7;have z1c:w7.frozen? ⟨w.heap.size+1,1,none⟩=false:=unfrozen_of b7;obtain ⟨Wc,hWc⟩:∃ Wc,(w7).setCell ⟨w.heap.size+1,0,none⟩ (.slice Gn D.now.length gn)=Wc:=⟨_,rfl⟩;obtain ⟨WZ,hWZ⟩:∃ WZ,Wc.setCell ⟨w.heap.size+1,1,none⟩ (.slice Gp D.past.length gp)=WZ:=⟨_,rfl⟩;have bWc:=set2a (.slice Gn D.now.length gn) b7;(try change ((w7).setCell ⟨w.heap.size+1,0,none⟩ (.slice Gn D.now.length gn)).heap[w.heap.size+1]?=_ at bWc);rw [hWc] at bWc;have xWc:=cell_of_row _ (w.heap.size+1) 1 _ _ _ bWc;have zWc:Wc.frozen? ⟨w.heap.size+1,1,none⟩=false:=unfrozen_of bWc;have bZ:=set2b (.slice Gp D.past.length gp) bWc;rw [hWZ] at bZ;have gZ:w8.grownBy WZ (some (w.heap.size+1)):=(by rw [<- hWZ,<- hWc];exact (g7.trans (grown_set1 _ _ _ _)).trans (grown_set1 _ _ _ _))))
      all_goals first
       | (go_wp2_with fail;have k0:=cell_of_row _ (w.heap.size+1) 0 _ _ _ b7;have k1:=cell_of_row _ (w.heap.size+1) 1 _ _ _ b7;refine bodyPost_ret (v:=.tuple #[.agg #[.slice Gn D.now.length gn,.slice Gp D.past.length gp],.string (bs (numL x.toNat))]) (by simp [results,Tryz.f21,go_sem]) rfl ?_;exact ⟨_,_,us,by rw [HV.out],by rw [HV.out];exact HKO.out _ g7,HBel.out _ g7⟩)
       | (go_wp2_with fail;have k0:=cell_of_row _ (w.heap.size+1) 0 _ _ _ bZ;have k1:=cell_of_row _ (w.heap.size+1) 1 _ _ _ bZ;refine bodyPost_ret (v:=.tuple #[.agg #[.slice Gn D.now.length gn,.slice Gp D.past.length gp],.string (bs (numL x.toNat))]) (by simp [results,Tryz.f21,go_sem,k0,k1]) rfl ?_;exact ⟨_,_,us,by rw [HV.out],by rw [HV.out];exact HKO.out _ gZ,HBel.out _ gZ⟩)
   ·simp only [not_or,not_and] at hg
    obtain ⟨g1,g3,g4⟩:=hg
    have r0:((bs u).toList == [119,111,114,107])=false:=by rw [bs_list];simpa [wWork] using g1
    by_cases u2:u=wOrder
    ·have r1:((bs u).toList == [111,114,100,101,114])=true:=by rw [u2,bs_list];decide
     have HV:=Lib.hid (show deskLine D s=(D,rowText (orderR D.now n)) by rw [HVb.out,askW,if_neg g1,if_pos u2])
     have hsm:=small_order D.now n
     have hcl8:=HC8.out
     clear g1 g3 g4 u2 HVb hbl6
     go_wp2_with fail
     clear r0 r1 c60
     have hrl:w.heap.size+1 < wq.heap.size:=by omega
     have hcl:w2.heap.size < wq.heap.size:=by omega
     have HBel:Hid (∀ W,wq.grownBy W (some (w.heap.size+1))->Below w.heap.size w W):=Lib.hid (fun W g=>(hb0.trans (hx5.mono (by omega))).grown g (by omega) (fun k e=>by cases e;omega))
     have HKO:Hid (∀ W,wq.grownBy W (some (w.heap.size+1))->KO W w.heap.size (.slice Gn D.now.length gn) (.slice Gp D.past.length gp) D us):=Lib.hid (fun W g=>(ko5.keptLow g (by omega)).mono (by omega))
     have HS:Hid (∀ W,wq.grownBy W (some (w.heap.size+1))->W.cell? ⟨w2.heap.size,0,none⟩=some (.slice Gn D.now.length gn)∧W.cell? ⟨w2.heap.size,1,none⟩=some (.slice Gp D.past.length gp)):=Lib.hid (fun W g=>by
      have q:=(g.block w2.heap.size hcl (by simp;omega)).trans bO5
      exact ⟨cell_of_row _ _ 0 _ _ _ q,cell_of_row _ _ 1 _ _ _ q⟩)
     have q5:=cell_of_row _ w2.heap.size 0 _ _ _ bO5
     have q6:=cell_of_row _ w2.heap.size 1 _ _ _ bO5
     have x0:=cell_of_row _ (w.heap.size+1) 0 _ _ _ bR5
     have x1:=cell_of_row _ (w.heap.size+1) 1 _ _ _ bR5
     have z0:wq.frozen? ⟨w.heap.size+1,0,none⟩=false:=unfrozen_of bR5
     have z1:wq.frozen? ⟨w.heap.size+1,1,none⟩=false:=unfrozen_of bR5
     have H1:=Lib.hid (fun W (g:wq.grownBy W (some (w.heap.size+1)))=>c_sOrderBy D.now An cn n W ((hN.below (HBel.out W g)).more (HBel.out W g).size) (by omega))
     generalize hxs:orderR D.now n=xs at *
     have H2:=Lib.hid (fun (A6:Option Addr) (c6:Nat) W (h:Is W W.heap.size A6 xs)=>c_sRow xs A6 c6 W h hsm.1 hsm.2)
     clear hxs
     have G0:Hid (wq.grownBy wq.drew (some (w.heap.size+1))):=Lib.hid (grown_thenB (⟨rfl,rfl,rfl,Nat.le_refl _,fun _ _ _=>rfl⟩:wq.grownBy wq (some (w.heap.size+1))) (Below.refl _ wq).drew)
     obtain ⟨Wa,hWa⟩:∃ Wa,(wq.drew).setCell ⟨w.heap.size+1,0,none⟩ (.slice Gn D.now.length gn)=Wa:=⟨_,rfl⟩
     obtain ⟨WX,hWX⟩:∃ WX,Wa.setCell ⟨w.heap.size+1,1,none⟩ (.slice Gp D.past.length gp)=WX:=⟨_,rfl⟩
     have bWa:=set2a (.slice Gn D.now.length gn) bR5
     (try change ((wq.drew).setCell ⟨w.heap.size+1,0,none⟩ (.slice Gn D.now.length gn)).heap[w.heap.size+1]?=_ at bWa)
     rw [hWa] at bWa
     have xWa:=cell_of_row _ (w.heap.size+1) 1 _ _ _ bWa
     have zWa:Wa.frozen? ⟨w.heap.size+1,1,none⟩=false:=unfrozen_of bWa
     have bX:=set2b (.slice Gp D.past.length gp) bWa
     rw [hWX] at bX
     have gX:wq.grownBy WX (some (w.heap.size+1)):=(by rw [<- hWX,<- hWa];exact (G0.out.trans (grown_set1 _ _ _ _)).trans (grown_set1 _ _ _ _))
     have GX:=Lib.hid gX
     go_region_held3 (fun W=>W.cell? ⟨w2.heap.size,0,none⟩=some (.slice Gn D.now.length gn)∧W.cell? ⟨w2.heap.size,1,none⟩=some (.slice Gp D.past.length gp))
      (first | go_keep | exact HS.out _ g7 | exact HS.out _ gZ | exact HS.out _ gY | exact HS.out _ g6 | exact HS.out _ gX | exact HS.out _ G0.out)
      (first
        | (go_at_call 78;(with_reducible refine (H1.out (wq.drew) G0.out).mono ?_);rintro e w6 ⟨v6,rfl,o6,hb6⟩;obtain ⟨A6,c6,rfl,-,-,h6⟩:=o6.form;have g6:=grown_thenB G0.out (hb6.mono (World.grownBy.size G0.out));have G6:=Lib.hid g6;have b6:=(hb6.block (w.heap.size+1) (by have:=World.grownBy.size G0.out;omega)).trans bR5;have x0a:=cell_of_row _ (w.heap.size+1) 0 _ _ _ b6;have x1a:=cell_of_row _ (w.heap.size+1) 1 _ _ _ b6;have z0a:w6.frozen? ⟨w.heap.size+1,0,none⟩=false:=unfrozen_of b6;have z1a:w6.frozen? ⟨w.heap.size+1,1,none⟩=false:=unfrozen_of b6;obtain ⟨Wb,hWb⟩:∃ Wb,(w6).setCell ⟨w.heap.size+1,0,none⟩ (.slice Gn D.now.length gn)=Wb:=⟨_,rfl⟩;obtain ⟨WY,hWY⟩:∃ WY,Wb.setCell ⟨w.heap.size+1,1,none⟩ (.slice Gp D.past.length gp)=WY:=⟨_,rfl⟩;have bWb:=set2a (.slice Gn D.now.length gn) b6;(try change ((w6).setCell ⟨w.heap.size+1,0,none⟩ (.slice Gn D.now.length gn)).heap[w.heap.size+1]?=_ at bWb);rw [hWb] at bWb;have xWb:=cell_of_row _ (w.heap.size+1) 1 _ _ _ bWb;have zWb:Wb.frozen? ⟨w.heap.size+1,1,none⟩=false:=unfrozen_of bWb;have bY:=set2b (.slice Gp D.past.length gp) bWb;rw [hWY] at bY;have gY:wq.grownBy WY (some (w.heap.size+1)):=(by rw [<- hWY,<- hWb];exact (g6.trans (grown_set1 _ _ _ _)).trans (grown_set1 _ _ _ _));have GY:=Lib.hid gY;have hY:Is WY WY.heap.size A6 xs:=(IO.isOf (w:=WY) (xs:=xs) (base:=wq.drew.heap.size) (World.ownsRow.kept o6 (by rw [<- hWY,<- hWb];exact (grown_set1 _ _ _ _).trans (grown_set1 _ _ _ _)) (.inr fun e=>by have:=owns_base o6 _ e;have:=World.grownBy.size G0.out;omega))).2)
        | (go_at_call 78;(with_reducible refine (H1.out (WX) GX.out).mono ?_);rintro e w6 ⟨v6,rfl,o6,hb6⟩;obtain ⟨A6,c6,rfl,-,-,h6⟩:=o6.form;have g6:=grown_thenB GX.out (hb6.mono (World.grownBy.size GX.out));have G6:=Lib.hid g6;have b6:=(hb6.block (w.heap.size+1) (by have:=World.grownBy.size GX.out;omega)).trans bX;have WY:=w6;have GY:=G6;have bY:=b6;have hY:=h6)
        | (go_at_call 66;(with_reducible refine (H2.out A6 c6 (w6) h6).mono ?_);rintro e w7 ⟨rfl,hb7⟩;have g7:=grown_thenB G6.out (hb7.mono (World.grownBy.size G6.out));have b7:=(hb7.block (w.heap.size+1) (by have:=World.grownBy.size G6.out;omega)).trans b6;have x0c:=cell_of_row _ (w.heap.size+1) 0 _ _ _ b7;have x1c:=cell_of_row _ (w.heap.size+1) 1 _ _ _ b7;have z0c:w7.frozen? ⟨w.heap.size+1,0,none⟩=false:=unfrozen_of b7;have z1c:w7.frozen? ⟨w.heap.size+1,1,none⟩=false:=unfrozen_of b7;obtain ⟨Wc,hWc⟩:∃ Wc,(w7).setCell ⟨w.heap.size+1,0,none⟩ (.slice Gn D.now.length gn)=Wc:=⟨_,rfl⟩;obtain ⟨WZ,hWZ⟩:∃ WZ,Wc.setCell ⟨w.heap.size+1,1,none⟩ (.slice Gp D.past.length gp)=WZ:=⟨_,rfl⟩;have bWc:=set2a (.slice Gn D.now.length gn) b7;(try change ((w7).setCell ⟨w.heap.size+1,0,none⟩ (.slice Gn D.now.length gn)).heap[w.heap.size+1]?=_ at bWc);rw [hWc] at bWc;have xWc:=cell_of_row _ (w.heap.size+1) 1 _ _ _ bWc;have zWc:Wc.frozen? ⟨w.heap.size+1,1,none⟩=false:=unfrozen_of bWc;have bZ:=set2b (.slice Gp D.past.length gp) bWc;rw [hWZ] at bZ;have gZ:wq.grownBy WZ (some (w.heap.size+1)):=(by rw [<- hWZ,<- hWc];exact (g7.trans (grown_set1 _ _ _ _)).trans (grown_set1 _ _ _ _)))
        | (go_at_call 66;(with_reducible refine (H2.out A6 c6 (WY) hY).mono ?_);rintro e w7 ⟨rfl,hb7⟩;have g7:=grown_thenB GY.out (hb7.mono (World.grownBy.size GY.out));have b7:=(hb7.block (w.heap.size+1) (by have:=World.grownBy.size GY.out;omega)).trans bY;have x0c:=cell_of_row _ (w.heap.size+1) 0 _ _ _ b7;have x1c:=cell_of_row _ (w.heap.size+1) 1 _ _ _ b7;have z0c:w7.frozen? ⟨w.heap.size+1,0,none⟩=false:=unfrozen_of b7;have z1c:w7.frozen? ⟨w.heap.size+1,1,none⟩=false:=unfrozen_of b7;obtain ⟨Wc,hWc⟩:∃ Wc,(w7).setCell ⟨w.heap.size+1,0,none⟩ (.slice Gn D.now.length gn)=Wc:=⟨_,rfl⟩;obtain ⟨WZ,hWZ⟩:∃ WZ,Wc.setCell ⟨w.heap.size+1,1,none⟩ (.slice Gp D.past.length gp)=WZ:=⟨_,rfl⟩;have bWc:=set2a (.slice Gn D.now.length gn) b7;(try change ((w7).setCell ⟨w.heap.size+1,0,none⟩ (.slice Gn D.now.length gn)).heap[w.heap.size+1]?=_ at bWc);rw [hWc] at bWc;have xWc:=cell_of_row _ (w.heap.size+1) 1 _ _ _ bWc;have zWc:Wc.frozen? ⟨w.heap.size+1,1,none⟩=false:=unfrozen_of bWc;have bZ:=set2b (.slice Gp D.past.length gp) bWc;rw [hWZ] at bZ;have gZ:wq.grownBy WZ (some (w.heap.size+1)):=(by rw [<- hWZ,<- hWc];exact (g7.trans (grown_set1 _ _ _ _)).trans (grown_set1 _ _ _ _))))
     all_goals first
      | (go_wp2_with fail;have k0:=cell_of_row _ (w.heap.size+1) 0 _ _ _ b7;have k1:=cell_of_row _ (w.heap.size+1) 1 _ _ _ b7;refine bodyPost_ret (v:=.tuple #[.agg #[.slice Gn D.now.length gn,.slice Gp D.past.length gp],.string (bs (rowText xs))]) (by simp [results,Tryz.f21,go_sem]) rfl ?_;exact ⟨_,_,us,by rw [HV.out],by rw [HV.out];exact HKO.out _ g7,HBel.out _ g7⟩)
      | (go_wp2_with fail;have k0:=cell_of_row _ (w.heap.size+1) 0 _ _ _ bZ;have k1:=cell_of_row _ (w.heap.size+1) 1 _ _ _ bZ;refine bodyPost_ret (v:=.tuple #[.agg #[.slice Gn D.now.length gn,.slice Gp D.past.length gp],.string (bs (rowText xs))]) (by simp [results,Tryz.f21,go_sem,k0,k1]) rfl ?_;exact ⟨_,_,us,by rw [HV.out],by rw [HV.out];exact HKO.out _ gZ,HBel.out _ gZ⟩)
    ·have r1:((bs u).toList == [111,114,100,101,114])=false:=by rw [bs_list];simpa [wOrder] using u2
     by_cases u3:u=wSum
     focus
      have r2:((bs u).toList == [115,117,109])=true:=by rw [u3,bs_list];decide
      have hn4:=g3 u3
      have HV:=Lib.hid (show deskLine D s=(D,wNone) by rw [HVb.out,askW,if_neg g1,if_neg u2,if_pos u3,if_neg hn4])
      clear u3
     rotate_left
     focus
      have r2:((bs u).toList == [115,117,109])=false:=by rw [bs_list];simpa [wSum] using u3
      have r3:((bs u).toList == [98,101,115,105,100,101])=false:=by rw [bs_list];simpa [wBeside] using g4
      have HV:=Lib.hid (show deskLine D s=(D,wWhat) by rw [HVb.out,askW,if_neg g1,if_neg u2,if_neg u3,if_neg g4])
      clear u3
     rotate_left
     all_goals
      clear g1 g3 g4 u2 HVb hbl6 hd hdl dd
      have hrl:w.heap.size+1 < wq.heap.size:=by omega
      have hcl:w2.heap.size < wq.heap.size:=by omega
      have HBel:Hid (∀ W,wq.grownBy W (some (w.heap.size+1))->Below w.heap.size w W):=Lib.hid (fun W g=>(hb0.trans (hx5.mono (by omega))).grown g (by omega) (fun k e=>by cases e;omega))
      have HKO:Hid (∀ W,wq.grownBy W (some (w.heap.size+1))->KO W w.heap.size (.slice Gn D.now.length gn) (.slice Gp D.past.length gp) D us):=Lib.hid (fun W g=>(ko5.keptLow g (by omega)).mono (by omega))
      have HS:Hid (∀ W,wq.grownBy W (some (w.heap.size+1))->W.cell? ⟨w2.heap.size,0,none⟩=some (.slice Gn D.now.length gn)∧W.cell? ⟨w2.heap.size,1,none⟩=some (.slice Gp D.past.length gp)):=Lib.hid (fun W g=>by
       have q:=(g.block w2.heap.size hcl (by simp;omega)).trans bO5
       exact ⟨cell_of_row _ _ 0 _ _ _ q,cell_of_row _ _ 1 _ _ _ q⟩)
      have q5:=cell_of_row _ w2.heap.size 0 _ _ _ bO5
      have q6:=cell_of_row _ w2.heap.size 1 _ _ _ bO5
      have x0:=cell_of_row _ (w.heap.size+1) 0 _ _ _ bR5
      have x1:=cell_of_row _ (w.heap.size+1) 1 _ _ _ bR5
      have z0:wq.frozen? ⟨w.heap.size+1,0,none⟩=false:=unfrozen_of bR5
      have z1:wq.frozen? ⟨w.heap.size+1,1,none⟩=false:=unfrozen_of bR5
      obtain ⟨Wa,hWa⟩:∃ Wa,(wq).setCell ⟨w.heap.size+1,0,none⟩ (.slice Gn D.now.length gn)=Wa:=⟨_,rfl⟩
      obtain ⟨WX,hWX⟩:∃ WX,Wa.setCell ⟨w.heap.size+1,1,none⟩ (.slice Gp D.past.length gp)=WX:=⟨_,rfl⟩
      have bWa:=set2a (.slice Gn D.now.length gn) bR5
      (try change ((wq).setCell ⟨w.heap.size+1,0,none⟩ (.slice Gn D.now.length gn)).heap[w.heap.size+1]?=_ at bWa)
      rw [hWa] at bWa
      have xWa:=cell_of_row _ (w.heap.size+1) 1 _ _ _ bWa
      have zWa:Wa.frozen? ⟨w.heap.size+1,1,none⟩=false:=unfrozen_of bWa
      have bX:=set2b (.slice Gp D.past.length gp) bWa
      rw [hWX] at bX
      have gX:wq.grownBy WX (some (w.heap.size+1)):=(by rw [<- hWX,<- hWa];exact ((⟨rfl,rfl,rfl,Nat.le_refl _,fun _ _ _=>rfl⟩:wq.grownBy wq (some (w.heap.size+1))).trans (grown_set1 _ _ _ _)).trans (grown_set1 _ _ _ _))
      have k0:=cell_of_row _ (w.heap.size+1) 0 _ _ _ bX
      have k1:=cell_of_row _ (w.heap.size+1) 1 _ _ _ bX
      go_wp2_with fail
      first
       | (refine bodyPost_ret (v:=.tuple #[.agg #[.slice Gn D.now.length gn,.slice Gp D.past.length gp],.string (bs wNone)]) (by simp [results,Tryz.f21,go_sem,k0,k1];rfl) rfl ?_;exact ⟨_,_,us,by rw [HV.out],by rw [HV.out];exact HKO.out _ gX,HBel.out _ gX⟩)
       | (refine bodyPost_ret (v:=.tuple #[.agg #[.slice Gn D.now.length gn,.slice Gp D.past.length gp],.string (bs wWhat)]) (by simp [results,Tryz.f21,go_sem,k0,k1];rfl) rfl ?_;exact ⟨_,_,us,by rw [HV.out],by rw [HV.out];exact HKO.out _ gX,HBel.out _ gX⟩)
  ·have HV:=Lib.hid (show deskLine D s=(D,wWhat) by rw [HVa.out,if_neg (by rw [words_no (fun h=>hd h.2)];simp)])
   have dd:decide (digL (ZS ws 1) < 0)=true:=decide_eq_true (by omega)
   clear hc6 h2 HVa hlw hd
   generalize ZS ws 1=x1 at *
   generalize digL x1=n at *
   go_wp2_with fail
   refine (HDx.out _).mono ?_
   rintro e wq ⟨rfl,rfl⟩
   clear e2 e2' p2 c61 HDx
   have hrl:w.heap.size+1 < wq.heap.size:=by omega
   have hcl:w2.heap.size < wq.heap.size:=by omega
   have HBel:Hid (∀ W,wq.grownBy W (some (w.heap.size+1))->Below w.heap.size w W):=Lib.hid (fun W g=>(hb0.trans (hx5.mono (by omega))).grown g (by omega) (fun k e=>by cases e;omega))
   have HKO:Hid (∀ W,wq.grownBy W (some (w.heap.size+1))->KO W w.heap.size (.slice Gn D.now.length gn) (.slice Gp D.past.length gp) D us):=Lib.hid (fun W g=>(ko5.keptLow g (by omega)).mono (by omega))
   have HS:Hid (∀ W,wq.grownBy W (some (w.heap.size+1))->W.cell? ⟨w2.heap.size,0,none⟩=some (.slice Gn D.now.length gn)∧W.cell? ⟨w2.heap.size,1,none⟩=some (.slice Gp D.past.length gp)):=Lib.hid (fun W g=>by
    have q:=(g.block w2.heap.size hcl (by simp;omega)).trans bO5
    exact ⟨cell_of_row _ _ 0 _ _ _ q,cell_of_row _ _ 1 _ _ _ q⟩)
   have q5:=cell_of_row _ w2.heap.size 0 _ _ _ bO5
   have q6:=cell_of_row _ w2.heap.size 1 _ _ _ bO5
   have x0:=cell_of_row _ (w.heap.size+1) 0 _ _ _ bR5
   have x1:=cell_of_row _ (w.heap.size+1) 1 _ _ _ bR5
   have z0:wq.frozen? ⟨w.heap.size+1,0,none⟩=false:=unfrozen_of bR5
   have z1:wq.frozen? ⟨w.heap.size+1,1,none⟩=false:=unfrozen_of bR5
   obtain ⟨Wa,hWa⟩:∃ Wa,(wq).setCell ⟨w.heap.size+1,0,none⟩ (.slice Gn D.now.length gn)=Wa:=⟨_,rfl⟩
   obtain ⟨WX,hWX⟩:∃ WX,Wa.setCell ⟨w.heap.size+1,1,none⟩ (.slice Gp D.past.length gp)=WX:=⟨_,rfl⟩
   have bWa:=set2a (.slice Gn D.now.length gn) bR5
   (try change ((wq).setCell ⟨w.heap.size+1,0,none⟩ (.slice Gn D.now.length gn)).heap[w.heap.size+1]?=_ at bWa)
   rw [hWa] at bWa
   have xWa:=cell_of_row _ (w.heap.size+1) 1 _ _ _ bWa
   have zWa:Wa.frozen? ⟨w.heap.size+1,1,none⟩=false:=unfrozen_of bWa
   have bX:=set2b (.slice Gp D.past.length gp) bWa
   rw [hWX] at bX
   have gX:wq.grownBy WX (some (w.heap.size+1)):=(by rw [<- hWX,<- hWa];exact ((⟨rfl,rfl,rfl,Nat.le_refl _,fun _ _ _=>rfl⟩:wq.grownBy wq (some (w.heap.size+1))).trans (grown_set1 _ _ _ _)).trans (grown_set1 _ _ _ _))
   have k0:=cell_of_row _ (w.heap.size+1) 0 _ _ _ bX
   have k1:=cell_of_row _ (w.heap.size+1) 1 _ _ _ bX
   go_wp2_with fail
   refine bodyPost_ret (v:=.tuple #[.agg #[.slice Gn D.now.length gn,.slice Gp D.past.length gp],.string (bs wWhat)]) (by simp [results,Tryz.f21,go_sem,k0,k1];rfl) rfl ?_
   exact ⟨_,_,us,by rw [HV.out],by rw [HV.out];exact HKO.out _ gX,HBel.out _ gX⟩
 ·have e2:((ws.length:Int) != 2)=true:=by simp;omega
  have e2':((ws.length:Int) == 2)=false:=beq_eq_false_iff_ne.2 (by omega)
  have HV:=Lib.hid (show deskLine D s=(D,wWhat) by rw [HVa.out,if_neg (by rw [words_no (fun h=>h2 h.1)];simp)])
  clear h2 HVa hlw hA6
  have hrl:w.heap.size+1 < w6.heap.size:=by omega
  have hcl:w2.heap.size < w6.heap.size:=by omega
  have HBel:Hid (∀ W,w6.grownBy W (some (w.heap.size+1))->Below w.heap.size w W):=Lib.hid (fun W g=>(hb0.trans (hx5.mono (by omega))).grown g (by omega) (fun k e=>by cases e;omega))
  have HKO:Hid (∀ W,w6.grownBy W (some (w.heap.size+1))->KO W w.heap.size (.slice Gn D.now.length gn) (.slice Gp D.past.length gp) D us):=Lib.hid (fun W g=>(ko5.keptLow g (by omega)).mono (by omega))
  have HS:Hid (∀ W,w6.grownBy W (some (w.heap.size+1))->W.cell? ⟨w2.heap.size,0,none⟩=some (.slice Gn D.now.length gn)∧W.cell? ⟨w2.heap.size,1,none⟩=some (.slice Gp D.past.length gp)):=Lib.hid (fun W g=>by
   have q:=(g.block w2.heap.size hcl (by simp;omega)).trans bO5
   exact ⟨cell_of_row _ _ 0 _ _ _ q,cell_of_row _ _ 1 _ _ _ q⟩)
  have q5:=cell_of_row _ w2.heap.size 0 _ _ _ bO5
  have q6:=cell_of_row _ w2.heap.size 1 _ _ _ bO5
  have x0:=cell_of_row _ (w.heap.size+1) 0 _ _ _ bR5
  have x1:=cell_of_row _ (w.heap.size+1) 1 _ _ _ bR5
  have z0:w6.frozen? ⟨w.heap.size+1,0,none⟩=false:=unfrozen_of bR5
  have z1:w6.frozen? ⟨w.heap.size+1,1,none⟩=false:=unfrozen_of bR5
  obtain ⟨Wa,hWa⟩:∃ Wa,(w6).setCell ⟨w.heap.size+1,0,none⟩ (.slice Gn D.now.length gn)=Wa:=⟨_,rfl⟩
  obtain ⟨WX,hWX⟩:∃ WX,Wa.setCell ⟨w.heap.size+1,1,none⟩ (.slice Gp D.past.length gp)=WX:=⟨_,rfl⟩
  have bWa:=set2a (.slice Gn D.now.length gn) bR5
  (try change ((w6).setCell ⟨w.heap.size+1,0,none⟩ (.slice Gn D.now.length gn)).heap[w.heap.size+1]?=_ at bWa)
  rw [hWa] at bWa
  have xWa:=cell_of_row _ (w.heap.size+1) 1 _ _ _ bWa
  have zWa:Wa.frozen? ⟨w.heap.size+1,1,none⟩=false:=unfrozen_of bWa
  have bX:=set2b (.slice Gp D.past.length gp) bWa
  rw [hWX] at bX
  have gX:w6.grownBy WX (some (w.heap.size+1)):=(by rw [<- hWX,<- hWa];exact ((⟨rfl,rfl,rfl,Nat.le_refl _,fun _ _ _=>rfl⟩:w6.grownBy w6 (some (w.heap.size+1))).trans (grown_set1 _ _ _ _)).trans (grown_set1 _ _ _ _))
  have k0:=cell_of_row _ (w.heap.size+1) 0 _ _ _ bX
  have k1:=cell_of_row _ (w.heap.size+1) 1 _ _ _ bX
  go_wp2_with fail
  refine bodyPost_ret (v:=.tuple #[.agg #[.slice Gn D.now.length gn,.slice Gp D.past.length gp],.string (bs wWhat)]) (by simp [results,Tryz.f21,go_sem,k0,k1];rfl) rfl ?_
  exact ⟨_,_,us,by rw [HV.out],by rw [HV.out];exact HKO.out _ gX,HBel.out _ gX⟩
end
section
attribute [local go_sem ↓] Go.wp_at_zero Go.wp_at_succ
theorem c_lineNo (D:KV) (vn vp:Value) (s:List UInt8) (w:World) (hK:Ks w w.heap.size vn vp D) (hs:SmallK D) (ho:deskOk D=false) :
  Calls Tryz.prog 21 #[.agg #[vn,vp],.string (bs s)] w (LineP D s w):=by
 obtain ⟨w0,hw0⟩:∃ w0,(w.alloc (.cells #[vn,vp] 31)).alloc (.cells #[.slice none 0 0,.slice none 0 0] 31)=w0:=⟨_,rfl⟩
 have hz0:w0.heap.size=w.heap.size+2:=by rw [<- hw0];simp
 have hb0:Below w.heap.size w w0:=by rw [<- hw0];exact ((Below.refl _ w).alloc (Nat.le_refl _) _).alloc (by simp) _
 have bD:w0.heap[w.heap.size]?=some (.cells #[vn,vp] 31 (0,0)):=by rw [<- hw0];exact (Below.heap_alloc _ _ _ (by simp)).trans (heap_alloc_new _ _)
 have bR:w0.heap[w.heap.size+1]?=some (.cells #[.slice none 0 0,.slice none 0 0] 31 (0,0)):=by rw [<- hw0];exact heap_newK _ _ _
 have hK0:=(hK.below hb0).more (show w.heap.size<=w0.heap.size by omega)
 have HO:=Lib.hid (c_sDeskOk D vn vp w0 hK0 hs)
 have d0:=cell_of_row _ w.heap.size 0 _ _ _ bD
 have d1:=cell_of_row _ w.heap.size 1 _ _ _ bD
 have HV:=Lib.hid (line_no (s:=s) ho)
 rw [ho] at HO
 clear ho hK hK0 hs
 go_enter Tryz.func21,Tryz.ntmps21
 go_wp2_with fail
 refine HO.out.mono ?_
 rintro e w1 ⟨rfl,hb1⟩
 have b1:=(hb1.block (w.heap.size+1) (by omega)).trans bR
 have r0:=cell_of_row _ (w.heap.size+1) 0 _ _ _ b1
 have r1:=cell_of_row _ (w.heap.size+1) 1 _ _ _ b1
 have f0:w1.frozen? ⟨w.heap.size+1,0,none⟩=false:=unfrozen_of b1
 have f1:w1.frozen? ⟨w.heap.size+1,1,none⟩=false:=unfrozen_of b1
 clear hw0
 go_wp2_with fail
 have b7:=set2b (.slice none 0 0) (set2a (.slice none 0 0) b1)
 have k0:=cell_of_row _ (w.heap.size+1) 0 _ _ _ b7
 have k1:=cell_of_row _ (w.heap.size+1) 1 _ _ _ b7
 refine bodyPost_ret (v:=.tuple #[.agg #[.slice none 0 0,.slice none 0 0],.string (bs [])]) (by simp [results,Tryz.f21,go_sem,k0,k1];rfl) rfl ?_
 exact ⟨_,_,[],by rw [HV.out],by rw [HV.out];exact KO.zero _ _,(((hb0.trans (hb1.mono (by omega))).setCell (p:=⟨w.heap.size+1,0,none⟩) (by simp) _).setCell (p:=⟨w.heap.size+1,1,none⟩) (by simp) _)⟩
theorem c_sDeskLine (D:KV) (vn vp:Value) (s:List UInt8) (w:World) (hK:Ks w w.heap.size vn vp D) (hs:SmallK D) (hl:s.length<=100000000) :
  Calls Tryz.prog 21 #[.agg #[vn,vp],.string (bs s)] w (LineP D s w):=by
 cases ho:deskOk D with
 | false=>exact c_lineNo D vn vp s w hK hs ho
 | true =>
  cases hrd:readD s with
  | some d=>exact c_lineDeed D vn vp s w hK hs hl ho d.k d.a d.b hrd
  | none =>
   by_cases hin:s ∈ [wMany,wWaits,wLeaves,wLast,wRounds,wBusy,wNeed,wLeast,wIdle]
   ·exact c_lineAsk9 D vn vp s w hK hs hl ho hrd hin
   exact c_lineWords D vn vp s w hK hs hl ho hrd (fun u hu e=>hin (e ▸ hu))
end
section
attribute [local go_sem ↓] Go.wp_at_zero Go.wp_at_succ
theorem KO.apart {w:World} {base r:Nat} {vn vp:Value} {D:KV} {vs:List Value} (h:KO w base vn vp D vs) (hr:r < base∨w.heap.size<=r):vn.ownBlock≠some r∧vp.ownBlock≠some r∧∀ k,k < D.past.length->(vs.getD k undef).ownBlock≠some r:=by
 refine ⟨fun e=>?_,fun e=>?_,fun k hk e=>?_⟩
 ·have h1:=owns_base h.now r e
  have h2:=owns_lt h.now r e
  omega
 ·have:=h.past.base_lt r e
  omega
 ·have hi:=h.past.inner k hk
  have h1:=owns_base hi r e
  have h2:=owns_lt hi r e
  omega
section
variable {w:World}
end
end
section
def lowL (xs:List Int):Prop:=∀ k,k < xs.length→-1≤Z xs k
theorem low_nil:lowL []:=fun k hk=>by simp at hk
theorem low_mem {xs:List Int} (h2:∀ v ∈ xs,-1<=v):lowL xs:=fun k hk=>h2 _ (by rw [Z_get hk];exact List.getElem_mem _)
theorem low_ord {L:List (Int×Int)} {o:List Int} (h:ordOk L o=true):lowL o:=fun k hk=>by
 have p:=ordOk_parts h
 rcases unitOk_cases (unitsOk_at _ p.2.2.1 k hk) with e | ⟨q,e,hq,-,-⟩ <;> rw [e] <;> omega
theorem low_order (L:List (Int×Int)) (r:Int):lowL (orderR L r):=by
 cases h:byOk L r with
 | true=>exact low_ord (order_ok7 h)
 | false=>rw [orderR_no h];exact low_nil
theorem low_rounds {L:List (Int×Int)} (h:cOk L=true):lowL (roundR L):=by
 obtain ⟨T,hT,-⟩:=lastLeave_nat h
 rw [roundR,if_pos h,hT,Int.toNat_natCast]
 exact low_ord (rr_ok h hT)
theorem low_waits {L:List (Int×Int)} (h:cOk L=true):lowL (waits L):=by
 rw [waits,if_pos h]
 intro k hk
 rw [waitsTo_len] at hk
 have e:Z (waitsTo L L.length) k=waitAt L k:=by simp [Z,waitsTo,hk]
 have:=waitAt_bd h k hk
 rw [e];omega
theorem low_leaves {L:List (Int×Int)} (h:cOk L=true):lowL (leaves L):=by
 rw [leaves,if_pos h]
 intro k hk
 rw [leavesTo_len] at hk
 have e:Z (leavesTo L L.length) k=leaveAt L k:=by simp [Z,leavesTo,hk]
 have:=leaveAt_bd h hk
 rw [e];omega
theorem low_last {L:List (Int×Int)} (h:cOk L=true):lowL (lastR L):=by
 have ho:=order_ok7 (L:=L) (r:=1) (by simp [byOk,h])
 rw [lastR,timesR_yes ho]
 intro k hk
 rw [timeL_len] at hk
 have:=time_bd ho hk
 have hb:=cOk_bd h hk
 rw [timeL_Z hk];omega
theorem busyT_low (L:List (Int×Int)):∀ t,∀ c ∈ busyT L t,0<=c.1∧0<=c.2:=by
 intro t
 induction t with
 | zero=>intro c hc;simp [busyT] at hc
 | succ t ih =>
  intro c hc
  simp only [busyT] at hc
  split at hc
  ·exact ih c hc
  ·unfold busyNext at hc
   split at hc
   ·rename_i hlast
    rcases List.mem_or_eq_of_mem_set hc with hc | rfl
    ·exact ih c hc
    ·simp only [lastIs,decide_eq_true_eq] at hlast
     have hm:0<=(X (busyT L t) ((busyT L t).length - 1)):=by
      have hlt:(busyT L t).length - 1 < (busyT L t).length:=by omega
      have:=(ih _ (List.getElem_mem hlt)).1
      simpa [X,List.getD_eq_getElem?_getD,hlt] using this
     constructor <;> simp <;> omega
   ·rcases List.mem_append.1 hc with hc | hc
    ·exact ih c hc
    ·simp at hc;subst hc;constructor <;> simp <;> omega
theorem low_busy (L:List (Int×Int)):lowL (rowB L):=by
 refine low_mem (fun v hv=>?_)
 obtain ⟨r,hr,hv⟩:=List.mem_flatten.1 hv
 simp only [rows,List.mem_map] at hr
 obtain ⟨c,hc,rfl⟩:=hr
 have hbd:0<=c.1∧0<=c.2:=by
  unfold busyP at hc
  split at hc
  ·exact busyT_low L 200 c hc
  ·simp at hc
 simp at hv
 rcases hv with rfl | rfl <;> omega
theorem sum_low (L:List (Int×Int)) (o:List Int):-1<=sumV L o:=by
 unfold sumV
 split
 ·rename_i h
  have:=tmTo_bd h L.length (Nat.le_refl _)
  omega
 ·omega
theorem work_low (L:List (Int×Int)) (t:Int):-1<=workV L t:=by
 unfold workV
 split
 ·rename_i h
  simp only [momentOk,Bool.and_eq_true] at h
  have:=wk_bd h.1 t.toNat
  omega
 ·omega
theorem waitsum_low (L:List (Int×Int)) (c:Int):-1<=waitSumV L c:=by
 unfold waitSumV
 split
 ·rename_i h
  have hp:=besOk_parts h
  have:=waitS_bd hp.1 (c:=c.toNat) (by omega) L.length (Nat.le_refl _)
  omega
 ·omega
def txtN (x:Int):List UInt8:=if x < 0 then [46] else numL x.toNat
theorem join_snoc (sep z:List UInt8):∀ {l:List (List UInt8)},l≠[]->Lib.join (l++[z]) sep=Lib.join l sep++sep++z:=by
 intro l hl
 cases l with
 | nil=>exact absurd rfl hl
 | cons x r=>rw [List.cons_append,Lib.join_cons,Lib.join_cons];simp [Lib.joinTail]
theorem txts_take {xs:List Int} {k:Nat} (h:k < xs.length):(xs.take (k+1)).map txtN=(xs.take k).map txtN++[txtN (Z xs k)]:=by
 rw [Z_get h,<- List.take_append_getElem h,List.map_append];rfl
theorem row_join (xs:List Int):∀ k,k < xs.length->rowTo xs (k+1)=Lib.join ((xs.take (k+1)).map txtN) [44]:=by
 intro k
 induction k with
 | zero =>
  intro hk
  rw [txts_take hk,List.take_zero,List.map_nil,List.nil_append,Lib.join_one]
  simp [rowTo,txtN]
 | succ k ih =>
  intro hk
  have h0:(xs.take (k+1)).map txtN≠[]:=by
   have:((xs.take (k+1)).map txtN).length=k+1:=by rw [List.length_map,List.length_take];omega
   intro e;rw [e] at this;simp at this
  rw [txts_take hk,join_snoc _ _ h0,<- ih (by omega)]
  show rowTo xs (k+1)++(if 0 < k+1 then [44] else [])++(if Z xs (k+1) < 0 then [46] else numL (Z xs (k+1)).toNat)=_
  rw [if_pos (by omega)];rfl
theorem row_all {xs:List Int} (h:0 < xs.length):rowText xs=Lib.join (xs.map txtN) [44]:=by
 obtain ⟨n,hn⟩:∃ n,xs.length=n+1:=⟨xs.length - 1,by omega⟩
 have e:=row_join xs n (by omega)
 rw [<- hn,List.take_length] at e
 rw [rowText,if_neg (by omega),e]
theorem dig_no {v:List UInt8} (h:(32:UInt8) ∈ v):digOk v=false:=by
 cases e:digOk v with
 | false=>rfl
 | true =>
  have:=List.all_eq_true.1 (digOk_parts e).2.2 _ h
  simp [isD] at this
def NotWord (s:List UInt8):Prop:=s≠wMany∧s≠wWaits∧s≠wLeaves∧s≠wLast∧s≠wRounds∧s≠wBusy∧s≠wNeed∧s≠wLeast∧s≠wIdle
theorem ask_none {L:List (Int×Int)} {s:List UInt8} (h:NotWord s) (hn:(32:UInt8) ∉ s):askL L s=wWhat:=by
 obtain ⟨h1,h2,h3,h4,h5,h6,h7,h8,h9⟩:=h
 have hw:wordsOk (cutL 32 s)=false:=by rw [cutL_none hn];simp [wordsOk]
 rw [askL,if_neg h1,if_neg h2,if_neg h3,if_neg h4,if_neg h5,if_neg h6,if_neg h7,if_neg h8,if_neg h9,if_neg (by rw [hw];simp)]
theorem ask_two {L:List (Int×Int)} {s u v:List UInt8} (h:NotWord s) (hs:s=u++32::v) (hu:(32:UInt8) ∉ u):askL L s=if digOk v=true then askW L u (valN v:Int) else wWhat:=by
 obtain ⟨h1,h2,h3,h4,h5,h6,h7,h8,h9⟩:=h
 rw [askL,if_neg h1,if_neg h2,if_neg h3,if_neg h4,if_neg h5,if_neg h6,if_neg h7,if_neg h8,if_neg h9]
 have hc:cutL 32 s=u::cutL 32 v:=by rw [hs,cutL_at v hu]
 rw [hc]
 cases hd:digOk v with
 | true =>
  have hv:(32:UInt8) ∉ v:=fun e=>by rw [dig_no e] at hd;cases hd
  have hdl:digL v=(valN v:Int):=by rw [digL,if_pos hd]
  rw [cutL_none hv,if_pos (by simp [wordsOk,wordsOk.ZS2,hdl]),if_pos rfl]
  simp [hdl]
 | false =>
  rw [if_neg (show ¬ (false=true) by simp)]
  have hw:wordsOk (u::cutL 32 v)=false:=by
   by_cases hv:(32:UInt8) ∈ v
   ·rcases split_at 32 v with h | ⟨a,b,e,ha⟩
    ·exact absurd hv h
    ·have:(cutL 32 v).length≠1:=by
      have h0:0 < (cutL 32 b).length:=List.length_pos_iff.2 (show cutL 32 b≠[] by simp [cutL])
      rw [e,cutL_at b ha,List.length_cons];omega
     simp [wordsOk]
     omega
   ·rw [cutL_none hv]
    simp [wordsOk,wordsOk.ZS2,digL,hd]
  rw [if_neg (by rw [hw];simp)]
end
end Go.Proofs.YthpccmkagikhjaaGreatDoor

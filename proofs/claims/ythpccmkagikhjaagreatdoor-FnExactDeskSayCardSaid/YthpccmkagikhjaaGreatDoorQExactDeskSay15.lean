import Derived.Test.YthpccmkagikhjaaGreatDoorQExactDeskSay6
import Derived.Test.YthpccmkagikhjaaGreatDoorQExactDeskSay11
import Derived.Test.YthpccmkagikhjaaGreatDoorQExactDeskSay13
import Derived.Test.YthpccmkagikhjaaGreatDoorQExactDeskSay14
namespace Go.Proofs.YthpccmkagikhjaaGreatDoor
set_option linter.unusedVariables false
open Go.RowKit
set_option maxRecDepth 8000
set_option maxHeartbeats 8000000
section
attribute [local go_sem ↓] Go.wp_at_zero Go.wp_at_succ
theorem app_I2 {w:World} {ops:Array Oper} {rest:List Oper} {o:Oper} {a:Act} {Q:Exit->Act->World->Prop} (hgd:o.guard=none) (s x:Operand)
  (ho:o.op=.call { callee:=.builtin .append,args:=#[s,x],argTypes:=#[85,85] })
  (base:Nat) (v:Value) (M:List Int) (p q:Int) (ib ic:Nat) (hs:a.eval s=v) (hown:IO w base v M) (hx:a.eval x=.slice (some ⟨ib,0,none⟩) 2 ic)
  (h0:w.cell? ⟨ib,0,none⟩=some (.int .i64 p)) (h1:w.cell? ⟨ib,1,none⟩=some (.int .i64 q)) (hlen:M.length<=1000000000000) (hbase:base<=w.heap.size)
  (h:∀ g cap w',IO w' base (.slice (some ⟨g,0,none⟩) (M.length+2) cap) (M++[p,q])->w.grownBy w' v.ownBlock->(v.ownBlock=some g∨g=w.heap.size)->wpList Tryz.prog ops Q rest (a.put o.dst (.slice (some ⟨g,0,none⟩) (M.length+2) cap)) w') :
  wpList Tryz.prog ops Q (o::rest) a w:=by
 obtain ⟨i0,hi,hz0,hz1,hz2⟩:=info_parts infoI
 refine wpList_append_lies w hgd s x _ ho base 3 i0 _ 1 8 Tryz.underlying85 hi hz0 hz1 hz2 rfl (by decide) v M.length _ hs hown
  ⟨ib,0,none⟩ 2 ic [.int .i64 p,.int .i64 q] hx rfl (fun j u hu=>?_) (by simp [Value.oneCell']) (by decide) (by simp only [maxLen];omega) (by omega) hbase _ rfl ?_
 ·match j with
  | 0=>simp at hu;subst hu;simpa [Addr.add] using h0
  | 1=>simp at hu;subst hu;simpa [Addr.add] using h1
  | (j+2)=>simp at hu
 ·intro g cap w' h1 h2 h3 _
  exact h g cap w' (by simpa [IO] using h1) h2 h3
theorem c_lineAsk9 (D:KV) (vn vp:Value) (s:List UInt8) (w:World) (hK:Ks w w.heap.size vn vp D) (hs:SmallK D) (hl:s.length<=100000000) (ho:deskOk D=true) (hrd:readD s=none) (hin:s ∈ [wMany,wWaits,wLeaves,wLast,wRounds,wBusy,wNeed,wLeast,wIdle]) :
  Calls Tryz.prog 21 #[.agg #[vn,vp],.string (bs s)] w (LineP D s w):=by
 have HC8:=Lib.hid (cOk_len (deskOk_parts ho).2.1)
 have HC:=Lib.hid (deskOk_parts ho).2.1
 have HL:=Lib.hid (line_ask ho hrd)
 have HIn:=Lib.hid hin
 clear hin
 obtain ⟨w0,hw0⟩:∃ w0,(w.alloc (.cells #[vn,vp] 31)).alloc (.cells #[.slice none 0 0,.slice none 0 0] 31)=w0:=⟨_,rfl⟩
 have hz0:w0.heap.size=w.heap.size+2:=by rw [<- hw0];simp
 have hb0:Below w.heap.size w w0:=by rw [<- hw0];exact ((Below.refl _ w).alloc (Nat.le_refl _) _).alloc (by simp) _
 have bD:w0.heap[w.heap.size]?=some (.cells #[vn,vp] 31 (0,0)):=by rw [<- hw0];exact (Below.heap_alloc _ _ _ (by simp)).trans (heap_alloc_new _ _)
 have bR:w0.heap[w.heap.size+1]?=some (.cells #[.slice none 0 0,.slice none 0 0] 31 (0,0)):=by rw [<- hw0];exact heap_newK _ _ _
 have hK0:=(hK.below hb0).more (show w.heap.size<=w0.heap.size by omega)
 have HO:=Lib.hid (c_sDeskOk D vn vp w0 hK0 hs)
 have d0:=cell_of_row _ w.heap.size 0 _ _ _ bD
 have d1:=cell_of_row _ w.heap.size 1 _ _ _ bD
 have H:=Lib.hid ho
 have HCp:=Lib.hid (fun (w':World) (hb:Below w0.heap.size w0 w')=>c_sCopy D vn vp w' ((hK0.below hb).more hb.size) hs)
 have HRd:=Lib.hid (fun W=>c_sReadDeed s hl W)
 rw [ho] at HO
 rw [hrd] at HRd
 have HK0:=Lib.hid hK0
 obtain ⟨⟨An,cn,rfl,hcn,hN⟩,Ap,cp,rfl,hcp,hP⟩:=hK
 clear hK0 ho hrd
 go_enter Tryz.func21,Tryz.ntmps21
 go_wp2_with fail
 refine HO.out.mono ?_
 rintro e w1 ⟨rfl,hb1⟩
 clear hw0
 have hz1:=hb1.size
 have g0:=(hb1.cell (p:=⟨w.heap.size,0,none⟩) (show w.heap.size < w0.heap.size by omega)).trans d0
 have g1:=(hb1.cell (p:=⟨w.heap.size,1,none⟩) (show w.heap.size < w0.heap.size by omega)).trans d1
 go_wp2_with fail
 refine (HCp.out _ hb1).mono ?_
 rintro e w2 ⟨un,up,us,rfl,hC,hb2⟩
 have hz2:=hb2.size
 have hx2:=hb1.trans (hb2.mono hz1)
 obtain ⟨Gn,gn,rfl,hgn,-⟩:=hC.now.formG
 obtain ⟨Gp,gp,rfl,hgp,hgm,-⟩:=hC.past.form
 obtain ⟨w3,hw3⟩:∃ w3,w2.alloc (.cells #[.slice Gn D.now.length gn,.slice Gp D.past.length gp] 31)=w3:=⟨_,rfl⟩
 have hz3:w2.heap.size < w3.heap.size:=by rw [<- hw3];simp
 have hb3:Below w2.heap.size w2 w3:=by rw [<- hw3];exact (Below.refl _ w2).alloc (Nat.le_refl _) _
 have bO:w3.heap[w2.heap.size]?=some (.cells #[.slice Gn D.now.length gn,.slice Gp D.past.length gp] 31 (0,0)):=by rw [<- hw3];exact heap_alloc_new _ _
 have hx3:=hx2.trans (hb3.mono (by omega))
 have ko3:KO w3 w1.heap.size (.slice Gn D.now.length gn) (.slice Gp D.past.length gp) D us:=hC.ko.below hb3 (Nat.le_refl _)
 clear g0 g1 hC
 go_wp2_with fail
 refine (HRd.out _).mono ?_
 rintro e w4 ⟨rfl,hb4⟩
 clear hw3
 have hz4:=hb4.size
 simp only [readV]
 have hx4:Below w0.heap.size w0 w4:=hx3.trans (hb4.mono (by omega))
 have hz34:w3.heap.size<=w4.heap.size:=hz4
 have bD4:=(hx4.block w.heap.size (by omega)).trans bD
 have bR4:=(hx4.block (w.heap.size+1) (by omega)).trans bR
 have bO4:=(hb4.block w2.heap.size hz3).trans bO
 have ko4:KO w4 w1.heap.size (.slice Gn D.now.length gn) (.slice Gp D.past.length gp) D us:=ko3.below hb4 (Nat.le_refl _)
 have hlt4:w2.heap.size < w4.heap.size:=by omega
 have bD5:=(Below.heap_alloc w4 (.cells #[.int .i64 0,.int .i64 0,.int .i64 0] 39) w.heap.size (by omega)).trans bD4
 have bR5:=(Below.heap_alloc w4 (.cells #[.int .i64 0,.int .i64 0,.int .i64 0] 39) (w.heap.size+1) (by omega)).trans bR4
 have bO5:=(Below.heap_alloc w4 (.cells #[.int .i64 0,.int .i64 0,.int .i64 0] 39) w2.heap.size hlt4).trans bO4
 have ko5:KO (w4.alloc (.cells #[.int .i64 0,.int .i64 0,.int .i64 0] 39)) w1.heap.size (.slice Gn D.now.length gn) (.slice Gp D.past.length gp) D us:=ko4.below ((Below.refl w4.heap.size w4).alloc (Nat.le_refl _) _) (Nat.le_refl _)
 have hx5:Below w0.heap.size w0 (w4.alloc (.cells #[.int .i64 0,.int .i64 0,.int .i64 0] 39)):=hx4.alloc (by omega) _
 have hs5:w4.heap.size < (w4.alloc (.cells #[.int .i64 0,.int .i64 0,.int .i64 0] 39)).heap.size:=by simp
 have e0:=cell_of_row _ w.heap.size 0 _ _ _ bD5
 have e1:=cell_of_row _ w.heap.size 1 _ _ _ bD5
 have hcl8:=HC8.out
 by_cases hA:s=wWaits∨s=wLeaves∨s=wLast∨s=wRounds
 ·rcases hA with hw | hw | hw | hw
  focus
   have HV:=Lib.hid (show deskLine D s=(D,rowText (waits D.now)) by rw [HL.out,hw,ask_Waits])
   have hsm:=small_waits HC.out
   have HF:=Lib.hid (fun W (hb:Below w.heap.size w W)=>c_sWaitsOf D.now An cn W ((hN.below hb).more hb.size) (by omega))
   have q0:((bs s).toList == [109,97,110,121])=false:=by rw [hw,bs_list];decide
   have q1:((bs s).toList == [119,97,105,116,115])=true:=by rw [hw,bs_list];decide
   clear hw
   go_wp2_with fail
   generalize hxs:waits D.now=xs at *
  rotate_left
  focus
   have HV:=Lib.hid (show deskLine D s=(D,rowText (leaves D.now)) by rw [HL.out,hw,ask_Leaves])
   have hsm:=small_leaves HC.out
   have HF:=Lib.hid (fun W (hb:Below w.heap.size w W)=>c_sLeavesOf D.now An cn W ((hN.below hb).more hb.size) (by omega))
   have q0:((bs s).toList == [109,97,110,121])=false:=by rw [hw,bs_list];decide
   have q1:((bs s).toList == [119,97,105,116,115])=false:=by rw [hw,bs_list];decide
   have q2:((bs s).toList == [108,101,97,118,101,115])=true:=by rw [hw,bs_list];decide
   clear hw
   go_wp2_with fail
   generalize hxs:leaves D.now=xs at *
  rotate_left
  focus
   have HV:=Lib.hid (show deskLine D s=(D,rowText (lastR D.now)) by rw [HL.out,hw,ask_Last])
   have hsm:=small_last HC.out
   have HF:=Lib.hid (fun W (hb:Below w.heap.size w W)=>c_sLastTimes D.now An cn W ((hN.below hb).more hb.size) (by omega))
   have q0:((bs s).toList == [109,97,110,121])=false:=by rw [hw,bs_list];decide
   have q1:((bs s).toList == [119,97,105,116,115])=false:=by rw [hw,bs_list];decide
   have q2:((bs s).toList == [108,101,97,118,101,115])=false:=by rw [hw,bs_list];decide
   have q3:((bs s).toList == [108,97,115,116])=true:=by rw [hw,bs_list];decide
   clear hw
   go_wp2_with fail
   generalize hxs:lastR D.now=xs at *
  rotate_left
  focus
   have HV:=Lib.hid (show deskLine D s=(D,rowText (roundR D.now)) by rw [HL.out,hw,ask_Rounds])
   have hsm:=small_rounds HC.out
   have HF:=Lib.hid (fun W (hb:Below w.heap.size w W)=>c_sRoundOrder D.now An cn W ((hN.below hb).more hb.size) (by omega))
   have q0:((bs s).toList == [109,97,110,121])=false:=by rw [hw,bs_list];decide
   have q1:((bs s).toList == [119,97,105,116,115])=false:=by rw [hw,bs_list];decide
   have q2:((bs s).toList == [108,101,97,118,101,115])=false:=by rw [hw,bs_list];decide
   have q3:((bs s).toList == [108,97,115,116])=false:=by rw [hw,bs_list];decide
   have q4:((bs s).toList == [114,111,117,110,100,115])=true:=by rw [hw,bs_list];decide
   clear hw
   go_wp2_with fail
   generalize hxs:roundR D.now=xs at *
  rotate_left
  all_goals
   clear hxs
   generalize w4.alloc (.cells #[.int .i64 0,.int .i64 0,.int .i64 0] 39)=wA at *
   have hrl:w.heap.size+1 < wA.heap.size:=by omega
   have hcl:w2.heap.size < wA.heap.size:=by omega
   have HBel:Hid (∀ W,wA.grownBy W (some (w.heap.size+1))->Below w.heap.size w W):=Lib.hid (fun W g=>(hb0.trans (hx5.mono (by omega))).grown g (by omega) (fun k e=>by cases e;omega))
   have HKO:Hid (∀ W,wA.grownBy W (some (w.heap.size+1))->KO W w.heap.size (.slice Gn D.now.length gn) (.slice Gp D.past.length gp) D us):=Lib.hid (fun W g=>(ko5.keptLow g (by omega)).mono (by omega))
   have HS:Hid (∀ W,wA.grownBy W (some (w.heap.size+1))->W.cell? ⟨w2.heap.size,0,none⟩=some (.slice Gn D.now.length gn)∧W.cell? ⟨w2.heap.size,1,none⟩=some (.slice Gp D.past.length gp)):=Lib.hid (fun W g=>by
    have q:=(g.block w2.heap.size hcl (by simp;omega)).trans bO5
    exact ⟨cell_of_row _ _ 0 _ _ _ q,cell_of_row _ _ 1 _ _ _ q⟩)
   have q5:=cell_of_row _ w2.heap.size 0 _ _ _ bO5
   have q6:=cell_of_row _ w2.heap.size 1 _ _ _ bO5
   have x0:=cell_of_row _ (w.heap.size+1) 0 _ _ _ bR5
   have x1:=cell_of_row _ (w.heap.size+1) 1 _ _ _ bR5
   have z0:wA.frozen? ⟨w.heap.size+1,0,none⟩=false:=unfrozen_of bR5
   have z1:wA.frozen? ⟨w.heap.size+1,1,none⟩=false:=unfrozen_of bR5
   have H1:=Lib.hid (fun W (g:wA.grownBy W (some (w.heap.size+1)))=>HF.out W (HBel.out W g))
   have H2:=Lib.hid (fun (A6:Option Addr) (c6:Nat) W (h:Is W W.heap.size A6 xs)=>c_sRow xs A6 c6 W h hsm.1 hsm.2)
   have G0:Hid (wA.grownBy wA.drew (some (w.heap.size+1))):=Lib.hid (grown_thenB (⟨rfl,rfl,rfl,Nat.le_refl _,fun _ _ _=>rfl⟩:wA.grownBy wA (some (w.heap.size+1))) (Below.refl _ wA).drew)
   obtain ⟨Wa,hWa⟩:∃ Wa,(wA.drew).setCell ⟨w.heap.size+1,0,none⟩ (.slice Gn D.now.length gn)=Wa:=⟨_,rfl⟩
   obtain ⟨WX,hWX⟩:∃ WX,Wa.setCell ⟨w.heap.size+1,1,none⟩ (.slice Gp D.past.length gp)=WX:=⟨_,rfl⟩
   have bWa:=set2a (.slice Gn D.now.length gn) bR5
   (try change ((wA.drew).setCell ⟨w.heap.size+1,0,none⟩ (.slice Gn D.now.length gn)).heap[w.heap.size+1]?=_ at bWa)
   rw [hWa] at bWa
   have xWa:=cell_of_row _ (w.heap.size+1) 1 _ _ _ bWa
   have zWa:Wa.frozen? ⟨w.heap.size+1,1,none⟩=false:=unfrozen_of bWa
   have bX:=set2b (.slice Gp D.past.length gp) bWa
   rw [hWX] at bX
   have gX:wA.grownBy WX (some (w.heap.size+1)):=(by rw [<- hWX,<- hWa];exact (G0.out.trans (grown_set1 _ _ _ _)).trans (grown_set1 _ _ _ _))
   have GX:=Lib.hid gX
   go_region_held3 (fun W=>W.cell? ⟨w2.heap.size,0,none⟩=some (.slice Gn D.now.length gn)∧W.cell? ⟨w2.heap.size,1,none⟩=some (.slice Gp D.past.length gp))
    (first | go_keep | exact HS.out _ g7 | exact HS.out _ gZ | exact HS.out _ gY | exact HS.out _ g6 | exact HS.out _ gX | exact HS.out _ G0.out)
    (first
      | ((first | go_at_call 67 | go_at_call 68 | go_at_call 69 | go_at_call 70);(with_reducible refine (H1.out (wA.drew) G0.out).mono ?_);rintro e w6 ⟨v6,rfl,o6,hb6⟩;obtain ⟨A6,c6,rfl,-,-,h6⟩:=o6.form;have g6:=grown_thenB G0.out (hb6.mono (World.grownBy.size G0.out));have G6:=Lib.hid g6;have b6:=(hb6.block (w.heap.size+1) (by have:=World.grownBy.size G0.out;omega)).trans bR5;have x0a:=cell_of_row _ (w.heap.size+1) 0 _ _ _ b6;have x1a:=cell_of_row _ (w.heap.size+1) 1 _ _ _ b6;have z0a:w6.frozen? ⟨w.heap.size+1,0,none⟩=false:=unfrozen_of b6;have z1a:w6.frozen? ⟨w.heap.size+1,1,none⟩=false:=unfrozen_of b6;obtain ⟨Wb,hWb⟩:∃ Wb,(w6).setCell ⟨w.heap.size+1,0,none⟩ (.slice Gn D.now.length gn)=Wb:=⟨_,rfl⟩;obtain ⟨WY,hWY⟩:∃ WY,Wb.setCell ⟨w.heap.size+1,1,none⟩ (.slice Gp D.past.length gp)=WY:=⟨_,rfl⟩;have bWb:=set2a (.slice Gn D.now.length gn) b6;(try change ((w6).setCell ⟨w.heap.size+1,0,none⟩ (.slice Gn D.now.length gn)).heap[w.heap.size+1]?=_ at bWb);rw [hWb] at bWb;have xWb:=cell_of_row _ (w.heap.size+1) 1 _ _ _ bWb;have zWb:Wb.frozen? ⟨w.heap.size+1,1,none⟩=false:=unfrozen_of bWb;have bY:=set2b (.slice Gp D.past.length gp) bWb;rw [hWY] at bY;have gY:wA.grownBy WY (some (w.heap.size+1)):=(by rw [<- hWY,<- hWb];exact (g6.trans (grown_set1 _ _ _ _)).trans (grown_set1 _ _ _ _));have GY:=Lib.hid gY;have hY:Is WY WY.heap.size A6 xs:=(IO.isOf (w:=WY) (xs:=xs) (base:=wA.drew.heap.size) (World.ownsRow.kept o6 (by rw [<- hWY,<- hWb];exact (grown_set1 _ _ _ _).trans (grown_set1 _ _ _ _)) (.inr fun e=>by have:=owns_base o6 _ e;have:=World.grownBy.size G0.out;omega))).2)
      | ((first | go_at_call 67 | go_at_call 68 | go_at_call 69 | go_at_call 70);(with_reducible refine (H1.out (WX) GX.out).mono ?_);rintro e w6 ⟨v6,rfl,o6,hb6⟩;obtain ⟨A6,c6,rfl,-,-,h6⟩:=o6.form;have g6:=grown_thenB GX.out (hb6.mono (World.grownBy.size GX.out));have G6:=Lib.hid g6;have b6:=(hb6.block (w.heap.size+1) (by have:=World.grownBy.size GX.out;omega)).trans bX;have WY:=w6;have GY:=G6;have bY:=b6;have hY:=h6)
      | (go_at_call 66;(with_reducible refine (H2.out A6 c6 (w6) h6).mono ?_);rintro e w7 ⟨rfl,hb7⟩;have g7:=grown_thenB G6.out (hb7.mono (World.grownBy.size G6.out));have b7:=(hb7.block (w.heap.size+1) (by have:=World.grownBy.size G6.out;omega)).trans b6;have x0c:=cell_of_row _ (w.heap.size+1) 0 _ _ _ b7;have x1c:=cell_of_row _ (w.heap.size+1) 1 _ _ _ b7;have z0c:w7.frozen? ⟨w.heap.size+1,0,none⟩=false:=unfrozen_of b7;have z1c:w7.frozen? ⟨w.heap.size+1,1,none⟩=false:=unfrozen_of b7;obtain ⟨Wc,hWc⟩:∃ Wc,(w7).setCell ⟨w.heap.size+1,0,none⟩ (.slice Gn D.now.length gn)=Wc:=⟨_,rfl⟩;obtain ⟨WZ,hWZ⟩:∃ WZ,Wc.setCell ⟨w.heap.size+1,1,none⟩ (.slice Gp D.past.length gp)=WZ:=⟨_,rfl⟩;have bWc:=set2a (.slice Gn D.now.length gn) b7;(try change ((w7).setCell ⟨w.heap.size+1,0,none⟩ (.slice Gn D.now.length gn)).heap[w.heap.size+1]?=_ at bWc);rw [hWc] at bWc;have xWc:=cell_of_row _ (w.heap.size+1) 1 _ _ _ bWc;have zWc:Wc.frozen? ⟨w.heap.size+1,1,none⟩=false:=unfrozen_of bWc;have bZ:=set2b (.slice Gp D.past.length gp) bWc;rw [hWZ] at bZ;have gZ:wA.grownBy WZ (some (w.heap.size+1)):=(by rw [<- hWZ,<- hWc];exact (g7.trans (grown_set1 _ _ _ _)).trans (grown_set1 _ _ _ _)))
      | (go_at_call 66;(with_reducible refine (H2.out A6 c6 (WY) hY).mono ?_);rintro e w7 ⟨rfl,hb7⟩;have g7:=grown_thenB GY.out (hb7.mono (World.grownBy.size GY.out));have b7:=(hb7.block (w.heap.size+1) (by have:=World.grownBy.size GY.out;omega)).trans bY;have x0c:=cell_of_row _ (w.heap.size+1) 0 _ _ _ b7;have x1c:=cell_of_row _ (w.heap.size+1) 1 _ _ _ b7;have z0c:w7.frozen? ⟨w.heap.size+1,0,none⟩=false:=unfrozen_of b7;have z1c:w7.frozen? ⟨w.heap.size+1,1,none⟩=false:=unfrozen_of b7;obtain ⟨Wc,hWc⟩:∃ Wc,(w7).setCell ⟨w.heap.size+1,0,none⟩ (.slice Gn D.now.length gn)=Wc:=⟨_,rfl⟩;obtain ⟨WZ,hWZ⟩:∃ WZ,Wc.setCell ⟨w.heap.size+1,1,none⟩ (.slice Gp D.past.length gp)=WZ:=⟨_,rfl⟩;have bWc:=set2a (.slice Gn D.now.length gn) b7;(try change ((w7).setCell ⟨w.heap.size+1,0,none⟩ (.slice Gn D.now.length gn)).heap[w.heap.size+1]?=_ at bWc);rw [hWc] at bWc;have xWc:=cell_of_row _ (w.heap.size+1) 1 _ _ _ bWc;have zWc:Wc.frozen? ⟨w.heap.size+1,1,none⟩=false:=unfrozen_of bWc;have bZ:=set2b (.slice Gp D.past.length gp) bWc;rw [hWZ] at bZ;have gZ:wA.grownBy WZ (some (w.heap.size+1)):=(by rw [<- hWZ,<- hWc];exact (g7.trans (grown_set1 _ _ _ _)).trans (grown_set1 _ _ _ _))))
   all_goals first
    | (go_wp2_with fail;have k0:=cell_of_row _ (w.heap.size+1) 0 _ _ _ b7;have k1:=cell_of_row _ (w.heap.size+1) 1 _ _ _ b7;refine bodyPost_ret (v:=.tuple #[.agg #[.slice Gn D.now.length gn,.slice Gp D.past.length gp],.string (bs (rowText xs))]) (by simp [results,Tryz.f21,go_sem]) rfl ?_;exact ⟨_,_,us,by rw [HV.out],by rw [HV.out];exact HKO.out _ g7,HBel.out _ g7⟩)
    | (go_wp2_with fail;have k0:=cell_of_row _ (w.heap.size+1) 0 _ _ _ bZ;have k1:=cell_of_row _ (w.heap.size+1) 1 _ _ _ bZ;refine bodyPost_ret (v:=.tuple #[.agg #[.slice Gn D.now.length gn,.slice Gp D.past.length gp],.string (bs (rowText xs))]) (by simp [results,Tryz.f21,go_sem,k0,k1]) rfl ?_;exact ⟨_,_,us,by rw [HV.out],by rw [HV.out];exact HKO.out _ gZ,HBel.out _ gZ⟩)
 have HArow:=Lib.hid hA
 clear hA
 by_cases hA:s=wNeed∨s=wLeast∨s=wIdle
 ·rcases hA with hw | hw | hw
  focus
   have HV:=Lib.hid (show deskLine D s=(D,numL (needOf D.now).toNat) by rw [HL.out,hw,ask_Need])
   have hsm:=need_small HC.out
   have HF:=Lib.hid (fun W (hb:Below w.heap.size w W)=>c_sNeedOf D.now An cn W ((hN.below hb).more hb.size) (by omega))
   have q0:((bs s).toList == [109,97,110,121])=false:=by rw [hw,bs_list];decide
   have q1:((bs s).toList == [119,97,105,116,115])=false:=by rw [hw,bs_list];decide
   have q2:((bs s).toList == [108,101,97,118,101,115])=false:=by rw [hw,bs_list];decide
   have q3:((bs s).toList == [108,97,115,116])=false:=by rw [hw,bs_list];decide
   have q4:((bs s).toList == [114,111,117,110,100,115])=false:=by rw [hw,bs_list];decide
   have q5:((bs s).toList == [98,117,115,121])=false:=by rw [hw,bs_list];decide
   have q6:((bs s).toList == [110,101,101,100])=true:=by rw [hw,bs_list];decide
   clear hw
   go_wp2_with fail
   generalize hxs:needOf D.now=x at *
  rotate_left
  focus
   have HV:=Lib.hid (show deskLine D s=(D,numL (leastV D.now).toNat) by rw [HL.out,hw,ask_Least])
   have hsm:=(least_sum HC.out).2
   have HF:=Lib.hid (fun W (hb:Below w.heap.size w W)=>c_sLeastSum D.now An cn W ((hN.below hb).more hb.size) (by omega))
   have q0:((bs s).toList == [109,97,110,121])=false:=by rw [hw,bs_list];decide
   have q1:((bs s).toList == [119,97,105,116,115])=false:=by rw [hw,bs_list];decide
   have q2:((bs s).toList == [108,101,97,118,101,115])=false:=by rw [hw,bs_list];decide
   have q3:((bs s).toList == [108,97,115,116])=false:=by rw [hw,bs_list];decide
   have q4:((bs s).toList == [114,111,117,110,100,115])=false:=by rw [hw,bs_list];decide
   have q5:((bs s).toList == [98,117,115,121])=false:=by rw [hw,bs_list];decide
   have q6:((bs s).toList == [110,101,101,100])=false:=by rw [hw,bs_list];decide
   have q7:((bs s).toList == [108,101,97,115,116])=true:=by rw [hw,bs_list];decide
   clear hw
   go_wp2_with fail
   generalize hxs:leastV D.now=x at *
  rotate_left
  focus
   have HV:=Lib.hid (show deskLine D s=(D,numL (idleV D.now).toNat) by rw [HL.out,hw,ask_Idle])
   have hsm:=idle_small HC.out
   have HF:=Lib.hid (fun W (hb:Below w.heap.size w W)=>c_sIdleUntil D.now An cn W ((hN.below hb).more hb.size) (by omega))
   have q0:((bs s).toList == [109,97,110,121])=false:=by rw [hw,bs_list];decide
   have q1:((bs s).toList == [119,97,105,116,115])=false:=by rw [hw,bs_list];decide
   have q2:((bs s).toList == [108,101,97,118,101,115])=false:=by rw [hw,bs_list];decide
   have q3:((bs s).toList == [108,97,115,116])=false:=by rw [hw,bs_list];decide
   have q4:((bs s).toList == [114,111,117,110,100,115])=false:=by rw [hw,bs_list];decide
   have q5:((bs s).toList == [98,117,115,121])=false:=by rw [hw,bs_list];decide
   have q6:((bs s).toList == [110,101,101,100])=false:=by rw [hw,bs_list];decide
   have q7:((bs s).toList == [108,101,97,115,116])=false:=by rw [hw,bs_list];decide
   have q8:((bs s).toList == [105,100,108,101])=true:=by rw [hw,bs_list];decide
   clear hw
   go_wp2_with fail
   generalize hxs:idleV D.now=x at *
  rotate_left
  all_goals
   clear hxs
   generalize w4.alloc (.cells #[.int .i64 0,.int .i64 0,.int .i64 0] 39)=wA at *
   have hrl:w.heap.size+1 < wA.heap.size:=by omega
   have hcl:w2.heap.size < wA.heap.size:=by omega
   have HBel:Hid (∀ W,wA.grownBy W (some (w.heap.size+1))->Below w.heap.size w W):=Lib.hid (fun W g=>(hb0.trans (hx5.mono (by omega))).grown g (by omega) (fun k e=>by cases e;omega))
   have HKO:Hid (∀ W,wA.grownBy W (some (w.heap.size+1))->KO W w.heap.size (.slice Gn D.now.length gn) (.slice Gp D.past.length gp) D us):=Lib.hid (fun W g=>(ko5.keptLow g (by omega)).mono (by omega))
   have HS:Hid (∀ W,wA.grownBy W (some (w.heap.size+1))->W.cell? ⟨w2.heap.size,0,none⟩=some (.slice Gn D.now.length gn)∧W.cell? ⟨w2.heap.size,1,none⟩=some (.slice Gp D.past.length gp)):=Lib.hid (fun W g=>by
    have q:=(g.block w2.heap.size hcl (by simp;omega)).trans bO5
    exact ⟨cell_of_row _ _ 0 _ _ _ q,cell_of_row _ _ 1 _ _ _ q⟩)
   have q5:=cell_of_row _ w2.heap.size 0 _ _ _ bO5
   have q6:=cell_of_row _ w2.heap.size 1 _ _ _ bO5
   have x0:=cell_of_row _ (w.heap.size+1) 0 _ _ _ bR5
   have x1:=cell_of_row _ (w.heap.size+1) 1 _ _ _ bR5
   have z0:wA.frozen? ⟨w.heap.size+1,0,none⟩=false:=unfrozen_of bR5
   have z1:wA.frozen? ⟨w.heap.size+1,1,none⟩=false:=unfrozen_of bR5
   have H1:=Lib.hid (fun W (g:wA.grownBy W (some (w.heap.size+1)))=>HF.out W (HBel.out W g))
   have H2:=Lib.hid (fun W=>show Calls Tryz.prog 65 #[.int .i64 x] W fun e w'=>e=.returned (.string (bs (numL x.toNat)))∧Below W.heap.size W w' from by
    have K:=c_sNumber x.toNat W (by omega)
    rwa [show ((x.toNat:Nat):Int)=x by omega] at K)
   have G0:Hid (wA.grownBy wA.drew (some (w.heap.size+1))):=Lib.hid (grown_thenB (⟨rfl,rfl,rfl,Nat.le_refl _,fun _ _ _=>rfl⟩:wA.grownBy wA (some (w.heap.size+1))) (Below.refl _ wA).drew)
   obtain ⟨Wa,hWa⟩:∃ Wa,(wA.drew).setCell ⟨w.heap.size+1,0,none⟩ (.slice Gn D.now.length gn)=Wa:=⟨_,rfl⟩
   obtain ⟨WX,hWX⟩:∃ WX,Wa.setCell ⟨w.heap.size+1,1,none⟩ (.slice Gp D.past.length gp)=WX:=⟨_,rfl⟩
   have bWa:=set2a (.slice Gn D.now.length gn) bR5
   (try change ((wA.drew).setCell ⟨w.heap.size+1,0,none⟩ (.slice Gn D.now.length gn)).heap[w.heap.size+1]?=_ at bWa)
   rw [hWa] at bWa
   have xWa:=cell_of_row _ (w.heap.size+1) 1 _ _ _ bWa
   have zWa:Wa.frozen? ⟨w.heap.size+1,1,none⟩=false:=unfrozen_of bWa
   have bX:=set2b (.slice Gp D.past.length gp) bWa
   rw [hWX] at bX
   have gX:wA.grownBy WX (some (w.heap.size+1)):=(by rw [<- hWX,<- hWa];exact (G0.out.trans (grown_set1 _ _ _ _)).trans (grown_set1 _ _ _ _))
   have GX:=Lib.hid gX
   go_region_held3 (fun W=>W.cell? ⟨w2.heap.size,0,none⟩=some (.slice Gn D.now.length gn)∧W.cell? ⟨w2.heap.size,1,none⟩=some (.slice Gp D.past.length gp))
    (first | go_keep | exact HS.out _ g7 | exact HS.out _ gZ | exact HS.out _ gY | exact HS.out _ g6 | exact HS.out _ gX | exact HS.out _ G0.out)
    (first
      | ((first | go_at_call 72 | go_at_call 73 | go_at_call 74);(with_reducible refine (H1.out (wA.drew) G0.out).mono ?_);rintro e w6 ⟨rfl,hb6⟩;have g6:=grown_thenB G0.out (hb6.mono (World.grownBy.size G0.out));have G6:=Lib.hid g6;have b6:=(hb6.block (w.heap.size+1) (by have:=World.grownBy.size G0.out;omega)).trans bR5;have x0a:=cell_of_row _ (w.heap.size+1) 0 _ _ _ b6;have x1a:=cell_of_row _ (w.heap.size+1) 1 _ _ _ b6;have z0a:w6.frozen? ⟨w.heap.size+1,0,none⟩=false:=unfrozen_of b6;have z1a:w6.frozen? ⟨w.heap.size+1,1,none⟩=false:=unfrozen_of b6;obtain ⟨Wb,hWb⟩:∃ Wb,(w6).setCell ⟨w.heap.size+1,0,none⟩ (.slice Gn D.now.length gn)=Wb:=⟨_,rfl⟩;obtain ⟨WY,hWY⟩:∃ WY,Wb.setCell ⟨w.heap.size+1,1,none⟩ (.slice Gp D.past.length gp)=WY:=⟨_,rfl⟩;have bWb:=set2a (.slice Gn D.now.length gn) b6;(try change ((w6).setCell ⟨w.heap.size+1,0,none⟩ (.slice Gn D.now.length gn)).heap[w.heap.size+1]?=_ at bWb);rw [hWb] at bWb;have xWb:=cell_of_row _ (w.heap.size+1) 1 _ _ _ bWb;have zWb:Wb.frozen? ⟨w.heap.size+1,1,none⟩=false:=unfrozen_of bWb;have bY:=set2b (.slice Gp D.past.length gp) bWb;rw [hWY] at bY;have gY:wA.grownBy WY (some (w.heap.size+1)):=(by rw [<- hWY,<- hWb];exact (g6.trans (grown_set1 _ _ _ _)).trans (grown_set1 _ _ _ _));have GY:=Lib.hid gY)
      | ((first | go_at_call 72 | go_at_call 73 | go_at_call 74);(with_reducible refine (H1.out (WX) GX.out).mono ?_);rintro e w6 ⟨rfl,hb6⟩;have g6:=grown_thenB GX.out (hb6.mono (World.grownBy.size GX.out));have G6:=Lib.hid g6;have b6:=(hb6.block (w.heap.size+1) (by have:=World.grownBy.size GX.out;omega)).trans bX;have WY:=w6;have GY:=G6;have bY:=b6)
      | (go_at_call 65;(with_reducible refine (H2.out (w6)).mono ?_);rintro e w7 ⟨rfl,hb7⟩;have g7:=grown_thenB G6.out (hb7.mono (World.grownBy.size G6.out));have b7:=(hb7.block (w.heap.size+1) (by have:=World.grownBy.size G6.out;omega)).trans b6;have x0c:=cell_of_row _ (w.heap.size+1) 0 _ _ _ b7;have x1c:=cell_of_row _ (w.heap.size+1) 1 _ _ _ b7;have z0c:w7.frozen? ⟨w.heap.size+1,0,none⟩=false:=unfrozen_of b7;have z1c:w7.frozen? ⟨w.heap.size+1,1,none⟩=false:=unfrozen_of b7;obtain ⟨Wc,hWc⟩:∃ Wc,(w7).setCell ⟨w.heap.size+1,0,none⟩ (.slice Gn D.now.length gn)=Wc:=⟨_,rfl⟩;obtain ⟨WZ,hWZ⟩:∃ WZ,Wc.setCell ⟨w.heap.size+1,1,none⟩ (.slice Gp D.past.length gp)=WZ:=⟨_,rfl⟩;have bWc:=set2a (.slice Gn D.now.length gn) b7;(try change ((w7).setCell ⟨w.heap.size+1,0,none⟩ (.slice Gn D.now.length gn)).heap[w.heap.size+1]?=_ at bWc);rw [hWc] at bWc;have xWc:=cell_of_row _ (w.heap.size+1) 1 _ _ _ bWc;have zWc:Wc.frozen? ⟨w.heap.size+1,1,none⟩=false:=unfrozen_of bWc;have bZ:=set2b (.slice Gp D.past.length gp) bWc;rw [hWZ] at bZ;have gZ:wA.grownBy WZ (some (w.heap.size+1)):=(by rw [<- hWZ,<- hWc];exact (g7.trans (grown_set1 _ _ _ _)).trans (grown_set1 _ _ _ _)))
      | (go_at_call 65;(with_reducible refine (H2.out (WY)).mono ?_);rintro e w7 ⟨rfl,hb7⟩;have g7:=grown_thenB GY.out (hb7.mono (World.grownBy.size GY.out));have b7:=(hb7.block (w.heap.size+1) (by have:=World.grownBy.size GY.out;omega)).trans bY;have x0c:=cell_of_row _ (w.heap.size+1) 0 _ _ _ b7;have x1c:=cell_of_row _ (w.heap.size+1) 1 _ _ _ b7;have z0c:w7.frozen? ⟨w.heap.size+1,0,none⟩=false:=unfrozen_of b7;have z1c:w7.frozen? ⟨w.heap.size+1,1,none⟩=false:=unfrozen_of b7;obtain ⟨Wc,hWc⟩:∃ Wc,(w7).setCell ⟨w.heap.size+1,0,none⟩ (.slice Gn D.now.length gn)=Wc:=⟨_,rfl⟩;obtain ⟨WZ,hWZ⟩:∃ WZ,Wc.setCell ⟨w.heap.size+1,1,none⟩ (.slice Gp D.past.length gp)=WZ:=⟨_,rfl⟩;have bWc:=set2a (.slice Gn D.now.length gn) b7;(try change ((w7).setCell ⟨w.heap.size+1,0,none⟩ (.slice Gn D.now.length gn)).heap[w.heap.size+1]?=_ at bWc);rw [hWc] at bWc;have xWc:=cell_of_row _ (w.heap.size+1) 1 _ _ _ bWc;have zWc:Wc.frozen? ⟨w.heap.size+1,1,none⟩=false:=unfrozen_of bWc;have bZ:=set2b (.slice Gp D.past.length gp) bWc;rw [hWZ] at bZ;have gZ:wA.grownBy WZ (some (w.heap.size+1)):=(by rw [<- hWZ,<- hWc];exact (g7.trans (grown_set1 _ _ _ _)).trans (grown_set1 _ _ _ _))))
   all_goals first
    | (go_wp2_with fail;have k0:=cell_of_row _ (w.heap.size+1) 0 _ _ _ b7;have k1:=cell_of_row _ (w.heap.size+1) 1 _ _ _ b7;refine bodyPost_ret (v:=.tuple #[.agg #[.slice Gn D.now.length gn,.slice Gp D.past.length gp],.string (bs (numL x.toNat))]) (by simp [results,Tryz.f21,go_sem]) rfl ?_;exact ⟨_,_,us,by rw [HV.out],by rw [HV.out];exact HKO.out _ g7,HBel.out _ g7⟩)
    | (go_wp2_with fail;have k0:=cell_of_row _ (w.heap.size+1) 0 _ _ _ bZ;have k1:=cell_of_row _ (w.heap.size+1) 1 _ _ _ bZ;refine bodyPost_ret (v:=.tuple #[.agg #[.slice Gn D.now.length gn,.slice Gp D.past.length gp],.string (bs (numL x.toNat))]) (by simp [results,Tryz.f21,go_sem,k0,k1]) rfl ?_;exact ⟨_,_,us,by rw [HV.out],by rw [HV.out];exact HKO.out _ gZ,HBel.out _ gZ⟩)
 have HAnum:=Lib.hid hA
 clear hA
 by_cases hw:s=wMany
 ·have HV:=Lib.hid (show deskLine D s=(D,numL D.now.length) by rw [HL.out,hw,ask_Many])
  have q0:((bs s).toList == [109,97,110,121])=true:=by rw [hw,bs_list];decide
  clear hw
  go_wp2_with fail
  generalize w4.alloc (.cells #[.int .i64 0,.int .i64 0,.int .i64 0] 39)=wA at *
  have hrl:w.heap.size+1 < wA.heap.size:=by omega
  have hcl:w2.heap.size < wA.heap.size:=by omega
  have HBel:Hid (∀ W,wA.grownBy W (some (w.heap.size+1))->Below w.heap.size w W):=Lib.hid (fun W g=>(hb0.trans (hx5.mono (by omega))).grown g (by omega) (fun k e=>by cases e;omega))
  have HKO:Hid (∀ W,wA.grownBy W (some (w.heap.size+1))->KO W w.heap.size (.slice Gn D.now.length gn) (.slice Gp D.past.length gp) D us):=Lib.hid (fun W g=>(ko5.keptLow g (by omega)).mono (by omega))
  have HS:Hid (∀ W,wA.grownBy W (some (w.heap.size+1))->W.cell? ⟨w2.heap.size,0,none⟩=some (.slice Gn D.now.length gn)∧W.cell? ⟨w2.heap.size,1,none⟩=some (.slice Gp D.past.length gp)):=Lib.hid (fun W g=>by
   have q:=(g.block w2.heap.size hcl (by simp;omega)).trans bO5
   exact ⟨cell_of_row _ _ 0 _ _ _ q,cell_of_row _ _ 1 _ _ _ q⟩)
  have q5:=cell_of_row _ w2.heap.size 0 _ _ _ bO5
  have q6:=cell_of_row _ w2.heap.size 1 _ _ _ bO5
  have x0:=cell_of_row _ (w.heap.size+1) 0 _ _ _ bR5
  have x1:=cell_of_row _ (w.heap.size+1) 1 _ _ _ bR5
  have z0:wA.frozen? ⟨w.heap.size+1,0,none⟩=false:=unfrozen_of bR5
  have z1:wA.frozen? ⟨w.heap.size+1,1,none⟩=false:=unfrozen_of bR5
  have H2:=Lib.hid (fun W=>c_sNumber D.now.length W (by omega))
  have G0:Hid (wA.grownBy wA.drew (some (w.heap.size+1))):=Lib.hid (grown_thenB (⟨rfl,rfl,rfl,Nat.le_refl _,fun _ _ _=>rfl⟩:wA.grownBy wA (some (w.heap.size+1))) (Below.refl _ wA).drew)
  obtain ⟨Wa,hWa⟩:∃ Wa,(wA.drew).setCell ⟨w.heap.size+1,0,none⟩ (.slice Gn D.now.length gn)=Wa:=⟨_,rfl⟩
  obtain ⟨WX,hWX⟩:∃ WX,Wa.setCell ⟨w.heap.size+1,1,none⟩ (.slice Gp D.past.length gp)=WX:=⟨_,rfl⟩
  have bWa:=set2a (.slice Gn D.now.length gn) bR5
  (try change ((wA.drew).setCell ⟨w.heap.size+1,0,none⟩ (.slice Gn D.now.length gn)).heap[w.heap.size+1]?=_ at bWa)
  rw [hWa] at bWa
  have xWa:=cell_of_row _ (w.heap.size+1) 1 _ _ _ bWa
  have zWa:Wa.frozen? ⟨w.heap.size+1,1,none⟩=false:=unfrozen_of bWa
  have bX:=set2b (.slice Gp D.past.length gp) bWa
  rw [hWX] at bX
  have gX:wA.grownBy WX (some (w.heap.size+1)):=(by rw [<- hWX,<- hWa];exact (G0.out.trans (grown_set1 _ _ _ _)).trans (grown_set1 _ _ _ _))
  have GX:=Lib.hid gX
  go_region_held3 (fun W=>W.cell? ⟨w2.heap.size,0,none⟩=some (.slice Gn D.now.length gn)∧W.cell? ⟨w2.heap.size,1,none⟩=some (.slice Gp D.past.length gp))
   (first | go_keep | exact HS.out _ g7 | exact HS.out _ gZ | exact HS.out _ gY | exact HS.out _ g6 | exact HS.out _ gX | exact HS.out _ G0.out)
   (first
     | (go_at_call 65;(with_reducible refine (H2.out (wA.drew)).mono ?_);rintro e w7 ⟨rfl,hb7⟩;have g7:=grown_thenB G0.out (hb7.mono (World.grownBy.size G0.out));have b7:=(hb7.block (w.heap.size+1) (by have:=World.grownBy.size G0.out;omega)).trans bR5;have x0c:=cell_of_row _ (w.heap.size+1) 0 _ _ _ b7;have x1c:=cell_of_row _ (w.heap.size+1) 1 _ _ _ b7;have z0c:w7.frozen? ⟨w.heap.size+1,0,none⟩=false:=unfrozen_of b7;have z1c:w7.frozen? ⟨w.heap.size+1,1,none⟩=false:=unfrozen_of b7;obtain ⟨Wc,hWc⟩:∃ Wc,(w7).setCell ⟨w.heap.size+1,0,none⟩ (.slice Gn D.now.length gn)=Wc:=⟨_,rfl⟩;obtain ⟨WZ,hWZ⟩:∃ WZ,Wc.setCell ⟨w.heap.size+1,1,none⟩ (.slice Gp D.past.length gp)=WZ:=⟨_,rfl⟩;have bWc:=set2a (.slice Gn D.now.length gn) b7;(try change ((w7).setCell ⟨w.heap.size+1,0,none⟩ (.slice Gn D.now.length gn)).heap[w.heap.size+1]?=_ at bWc);rw [hWc] at bWc;have xWc:=cell_of_row _ (w.heap.size+1) 1 _ _ _ bWc;have zWc:Wc.frozen? ⟨w.heap.size+1,1,none⟩=false:=unfrozen_of bWc;have bZ:=set2b (.slice Gp D.past.length gp) bWc;rw [hWZ] at bZ;have gZ:wA.grownBy WZ (some (w.heap.size+1)):=(by rw [<- hWZ,<- hWc];exact (g7.trans (grown_set1 _ _ _ _)).trans (grown_set1 _ _ _ _)))
     | (go_at_call 65;(with_reducible refine (H2.out (WX)).mono ?_);rintro e w7 ⟨rfl,hb7⟩;have g7:=grown_thenB GX.out (hb7.mono (World.grownBy.size GX.out));have b7:=(hb7.block (w.heap.size+1) (by have:=World.grownBy.size GX.out;omega)).trans bX;have x0c:=cell_of_row _ (w.heap.size+1) 0 _ _ _ b7;have x1c:=cell_of_row _ (w.heap.size+1) 1 _ _ _ b7;have z0c:w7.frozen? ⟨w.heap.size+1,0,none⟩=false:=unfrozen_of b7;have z1c:w7.frozen? ⟨w.heap.size+1,1,none⟩=false:=unfrozen_of b7;obtain ⟨Wc,hWc⟩:∃ Wc,(w7).setCell ⟨w.heap.size+1,0,none⟩ (.slice Gn D.now.length gn)=Wc:=⟨_,rfl⟩;obtain ⟨WZ,hWZ⟩:∃ WZ,Wc.setCell ⟨w.heap.size+1,1,none⟩ (.slice Gp D.past.length gp)=WZ:=⟨_,rfl⟩;have bWc:=set2a (.slice Gn D.now.length gn) b7;(try change ((w7).setCell ⟨w.heap.size+1,0,none⟩ (.slice Gn D.now.length gn)).heap[w.heap.size+1]?=_ at bWc);rw [hWc] at bWc;have xWc:=cell_of_row _ (w.heap.size+1) 1 _ _ _ bWc;have zWc:Wc.frozen? ⟨w.heap.size+1,1,none⟩=false:=unfrozen_of bWc;have bZ:=set2b (.slice Gp D.past.length gp) bWc;rw [hWZ] at bZ;have gZ:wA.grownBy WZ (some (w.heap.size+1)):=(by rw [<- hWZ,<- hWc];exact (g7.trans (grown_set1 _ _ _ _)).trans (grown_set1 _ _ _ _))))
  all_goals first
   | (go_wp2_with fail;have k0:=cell_of_row _ (w.heap.size+1) 0 _ _ _ b7;have k1:=cell_of_row _ (w.heap.size+1) 1 _ _ _ b7;refine bodyPost_ret (v:=.tuple #[.agg #[.slice Gn D.now.length gn,.slice Gp D.past.length gp],.string (bs (numL D.now.length))]) (by simp [results,Tryz.f21,go_sem]) rfl ?_;exact ⟨_,_,us,by rw [HV.out],by rw [HV.out];exact HKO.out _ g7,HBel.out _ g7⟩)
   | (go_wp2_with fail;have k0:=cell_of_row _ (w.heap.size+1) 0 _ _ _ bZ;have k1:=cell_of_row _ (w.heap.size+1) 1 _ _ _ bZ;refine bodyPost_ret (v:=.tuple #[.agg #[.slice Gn D.now.length gn,.slice Gp D.past.length gp],.string (bs (numL D.now.length))]) (by simp [results,Tryz.f21,go_sem,k0,k1]) rfl ?_;exact ⟨_,_,us,by rw [HV.out],by rw [HV.out];exact HKO.out _ gZ,HBel.out _ gZ⟩)
 ·have hw:s=wBusy:=by
   have hin:=HIn.out
   have h0:=HArow.out
   have h1:=HAnum.out
   simp only [not_or] at h0 h1
   simp only [List.mem_cons,List.not_mem_nil,or_false] at hin
   rcases hin with h | h | h | h | h | h | h | h | h
   ·exact absurd h hw
   ·exact absurd h h0.1
   ·exact absurd h h0.2.1
   ·exact absurd h h0.2.2.1
   ·exact absurd h h0.2.2.2
   ·exact h
   ·exact absurd h h1.1
   ·exact absurd h h1.2.1
   ·exact absurd h h1.2.2
  clear HIn HArow HAnum
  have HSM:=Lib.hid (small_busy D.now)
  have HBL:=Lib.hid (busyP_len D.now)
  have HV:=Lib.hid (show deskLine D s=(D,rowText (rowB D.now)) by rw [HL.out,hw,ask_Busy])
  have q0:((bs s).toList == [109,97,110,121])=false:=by rw [hw,bs_list];decide
  have q1:((bs s).toList == [119,97,105,116,115])=false:=by rw [hw,bs_list];decide
  have q2:((bs s).toList == [108,101,97,118,101,115])=false:=by rw [hw,bs_list];decide
  have q3:((bs s).toList == [108,97,115,116])=false:=by rw [hw,bs_list];decide
  have q4:((bs s).toList == [114,111,117,110,100,115])=false:=by rw [hw,bs_list];decide
  have q5:((bs s).toList == [98,117,115,121])=true:=by rw [hw,bs_list];decide
  clear hw
  go_wp2_with fail
  have hz5e:(w4.alloc (.cells #[.int .i64 0,.int .i64 0,.int .i64 0] 39)).heap.size=w4.heap.size+1:=by simp
  generalize w4.alloc (.cells #[.int .i64 0,.int .i64 0,.int .i64 0] 39)=w5 at *
  clear q0 q1 q2 q3 q4 q5
  have hz05:=hx5.size
  have hbA:Below w.heap.size w w5:=hb0.trans (hx5.mono (by omega))
  have own5:=IO.empty w5 (Nat.le_refl w5.heap.size)
  rw [hz5e] at own5
  have hy5:Below (w4.heap.size+1) w5 (w5.alloc (.cells #[] 3)):=(Below.refl _ _).alloc (by omega) _
  have hzy:(w5.alloc (.cells #[] 3)).heap.size=w4.heap.size+1+1:=by simp;omega
  have hby:=hbA.trans (hy5.mono (by omega))
  have hcl8:=HC8.out
  refine (c_sBusyOf D.now An cn _ ((hN.below hby).more hby.size) (by omega)).mono ?_
  rintro e w6 ⟨v6,rfl,⟨vs6,oB⟩,hb6⟩
  have hsm:=HSM.out
  have hbl:=HBL.out
  rw [rowB] at hsm
  have HV2:Hid (deskLine D s=(D,rowText (rows (busyP D.now)).flatten)):=HV
  generalize busyP D.now=BP at *
  obtain ⟨B6,c6,rfl,-,-,hB6⟩:=oB.form
  rw [rows_len] at hB6 ⊢
  have own6:=own5.below hb6 (Nat.le_refl _)
  rw [hzy] at hb6 oB hB6
  have hz6:=hb6.size
  rw [hzy] at hz6
  have hy6:Below (w4.heap.size+1) w5 w6:=hy5.trans (hb6.mono (by omega))
  have HP:=Lib.hid (fun k (hk:k < BP.length)=>oB.pair hk)
  have HB6:=Lib.hid hB6
  clear hB6 oB
  go_wp2_with fail
  go_loopw [12,14] (fun v i wr=>∃ k:Nat,k<=BP.length∧i=.int .i64 (k:Int)∧IO wr (w4.heap.size+1) v ((rows BP).take k).flatten∧(∀ r,v.ownBlock=some r->r=(w4.heap.size+1)∨w6.heap.size<=r)∧(∀ b,(w4.heap.size+1) < b->b < w6.heap.size->wr.heap[b]?=w6.heap[b]?)∧Below (w4.heap.size+1) w5 wr∧w6.heap.size<=wr.heap.size) (fun _ i _=>BP.length - (intOf i).toNat)
  case atStart=>exact ⟨0,by omega,rfl,own6,fun r e=>by simp [Value.ownBlock] at e;exact .inl e.symm,fun _ _ _=>rfl,hy6,Nat.le_refl _⟩
  case round =>
   clear own5 own6 hy5 hby
   obtain ⟨k,hk,rfl,hown,hobk,hkeep,hbw,hzw⟩:=hrel
   have p1:(0:Int)<=(k:Int):=by omega
   by_cases hlt:k < BP.length
   ·have p2:(k:Int) < (BP.length:Int):=by omega
    obtain ⟨g6,rfl,hg6,hg6l,hcc,-⟩:=HB6.out (by omega)
    obtain ⟨ib,ic,ep,hib,hil,i0,i1⟩:=HP.out k hlt
    have c0:=(World.cell?_of_block (hkeep g6 (by omega) hg6l)).trans (hcc k hlt)
    rw [ep] at c0
    have j0:=(World.cell?_of_block (hkeep ib (by omega) hil)).trans i0
    have j1:=(World.cell?_of_block (hkeep ib (by omega) hil)).trans i1
    have HFl:=Lib.hid (show ((rows BP).take (k+1)).flatten=((rows BP).take k).flatten++[X BP k,Y BP k] by
     rw [List.take_succ_eq_append_getElem (by rw [rows_len];exact hlt),List.flatten_append]
     have e:=rows_get (B:=BP) hlt
     rw [List.getD_eq_getElem?_getD,List.getElem?_eq_getElem (by rw [rows_len];exact hlt)] at e
     simp only [Option.getD_some] at e
     rw [e];simp)
    have q7:((rows BP).take k).flatten.length<=1000000000000:=by
     have e:(rows BP).take k=rows (BP.take k):=by simp [rows]
     rw [e,flat_len,List.length_take];omega
    clear hcc i0 i1 ep
    generalize ((rows BP).take k).flatten=M at *
    go_wp2_with (refine app_I2 (by rfl) (.tmp 84) (.tmp 88) (by rfl) (w4.heap.size+1) u12 M (X BP k) (Y BP k) ib ic (by rfl) hown (by rfl) j0 j1 q7 (by omega) ?_;intro g7 cap7 w7 hown7 hgr7 hor7)
    have hz7:=World.grownBy.size hgr7
    go_wp2_with fail
    go_roundw
    case rel =>
     refine ⟨k+1,by omega,by go_num,by rw [HFl.out];simpa using hown7,fun r e=>?_,fun b h1 h2=>?_,hbw.grown hgr7 (by omega) (fun r e=>owns_base hown r e),by omega⟩
     ·have er:g7=r:=by simpa [Value.ownBlock] using e
      subst er
      rcases hor7 with h | h
      ·exact hobk _ h
      ·right;omega
     ·exact (hgr7.block b (by omega) (fun e=>by have:=hobk b e.symm;omega)).trans (hkeep b h1 h2)
    case measure=>simp [intOf];omega
   ·have p2:¬ (k:Int) < (BP.length:Int):=by omega
    obtain rfl:k=BP.length:=by omega
    rw [show (rows BP).take BP.length=rows BP by rw [<- rows_len BP,List.take_length]] at hown
    generalize hxs:(rows BP).flatten=xs at *
    obtain ⟨A9,c9,rfl,-,-,hA9⟩:=hown.form
    clear hxs
    go_wp2_with fail
    clear hkeep HP HB6
    have bO9:=(hbw.block w2.heap.size (by omega)).trans bO5
    have bR9:=(hbw.block (w.heap.size+1) (by omega)).trans bR5
    have ko9:KO wr w1.heap.size (.slice Gn D.now.length gn) (.slice Gp D.past.length gp) D us:=ko5.below hbw (by omega)
    have hx9:Below w0.heap.size w0 wr:=hx5.trans (hbw.mono (by omega))
    have hzr:=hbw.size
    clear bO5 bR5 ko5 hx5 bO4 bR4 ko4
    have bO5:=bO9
    have bR5:=bR9
    have ko5:=ko9
    have hx5:=hx9
    clear bO9 bR9 ko9 hx9
    have hrl:w.heap.size+1 < wr.heap.size:=by omega
    have hcl:w2.heap.size < wr.heap.size:=by omega
    have HBel:Hid (∀ W,wr.grownBy W (some (w.heap.size+1))->Below w.heap.size w W):=Lib.hid (fun W g=>(hb0.trans (hx5.mono (by omega))).grown g (by omega) (fun k e=>by cases e;omega))
    have HKO:Hid (∀ W,wr.grownBy W (some (w.heap.size+1))->KO W w.heap.size (.slice Gn D.now.length gn) (.slice Gp D.past.length gp) D us):=Lib.hid (fun W g=>(ko5.keptLow g (by omega)).mono (by omega))
    have HS:Hid (∀ W,wr.grownBy W (some (w.heap.size+1))->W.cell? ⟨w2.heap.size,0,none⟩=some (.slice Gn D.now.length gn)∧W.cell? ⟨w2.heap.size,1,none⟩=some (.slice Gp D.past.length gp)):=Lib.hid (fun W g=>by
     have q:=(g.block w2.heap.size hcl (by simp;omega)).trans bO5
     exact ⟨cell_of_row _ _ 0 _ _ _ q,cell_of_row _ _ 1 _ _ _ q⟩)
    have q5:=cell_of_row _ w2.heap.size 0 _ _ _ bO5
    have q6:=cell_of_row _ w2.heap.size 1 _ _ _ bO5
    have x0:=cell_of_row _ (w.heap.size+1) 0 _ _ _ bR5
    have x1:=cell_of_row _ (w.heap.size+1) 1 _ _ _ bR5
    have z0:wr.frozen? ⟨w.heap.size+1,0,none⟩=false:=unfrozen_of bR5
    have z1:wr.frozen? ⟨w.heap.size+1,1,none⟩=false:=unfrozen_of bR5
    have hob9:=owns_base hown
    have hbz:=hbw.size
    have H2:=Lib.hid (fun W (g:wr.grownBy W (some (w.heap.size+1)))=>c_sRow xs A9 c9 W ((IO.isOf (w:=W) (xs:=xs) (base:=(w4.heap.size+1)) (World.ownsRow.kept hown g (.inr fun e=>by have:=hob9 _ e;omega))).2) hsm.1 hsm.2)
    have G0:Hid (wr.grownBy wr.drew (some (w.heap.size+1))):=Lib.hid (grown_thenB (⟨rfl,rfl,rfl,Nat.le_refl _,fun _ _ _=>rfl⟩:wr.grownBy wr (some (w.heap.size+1))) (Below.refl _ wr).drew)
    obtain ⟨Wa,hWa⟩:∃ Wa,(wr.drew).setCell ⟨w.heap.size+1,0,none⟩ (.slice Gn D.now.length gn)=Wa:=⟨_,rfl⟩
    obtain ⟨WX,hWX⟩:∃ WX,Wa.setCell ⟨w.heap.size+1,1,none⟩ (.slice Gp D.past.length gp)=WX:=⟨_,rfl⟩
    have bWa:=set2a (.slice Gn D.now.length gn) bR5
    (try change ((wr.drew).setCell ⟨w.heap.size+1,0,none⟩ (.slice Gn D.now.length gn)).heap[w.heap.size+1]?=_ at bWa)
    rw [hWa] at bWa
    have xWa:=cell_of_row _ (w.heap.size+1) 1 _ _ _ bWa
    have zWa:Wa.frozen? ⟨w.heap.size+1,1,none⟩=false:=unfrozen_of bWa
    have bX:=set2b (.slice Gp D.past.length gp) bWa
    rw [hWX] at bX
    have gX:wr.grownBy WX (some (w.heap.size+1)):=(by rw [<- hWX,<- hWa];exact (G0.out.trans (grown_set1 _ _ _ _)).trans (grown_set1 _ _ _ _))
    have GX:=Lib.hid gX
    go_region_held3 (fun W=>W.cell? ⟨w2.heap.size,0,none⟩=some (.slice Gn D.now.length gn)∧W.cell? ⟨w2.heap.size,1,none⟩=some (.slice Gp D.past.length gp))
     (first | go_keep | exact HS.out _ g7 | exact HS.out _ gZ | exact HS.out _ gY | exact HS.out _ g6 | exact HS.out _ gX | exact HS.out _ G0.out)
     (first
       | (go_at_call 66;(with_reducible refine (H2.out (wr.drew) G0.out).mono ?_);rintro e w7 ⟨rfl,hb7⟩;have g7:=grown_thenB G0.out (hb7.mono (World.grownBy.size G0.out));have b7:=(hb7.block (w.heap.size+1) (by have:=World.grownBy.size G0.out;omega)).trans bR5;have x0c:=cell_of_row _ (w.heap.size+1) 0 _ _ _ b7;have x1c:=cell_of_row _ (w.heap.size+1) 1 _ _ _ b7;have z0c:w7.frozen? ⟨w.heap.size+1,0,none⟩=false:=unfrozen_of b7;have z1c:w7.frozen? ⟨w.heap.size+1,1,none⟩=false:=unfrozen_of b7;obtain ⟨Wc,hWc⟩:∃ Wc,(w7).setCell ⟨w.heap.size+1,0,none⟩ (.slice Gn D.now.length gn)=Wc:=⟨_,rfl⟩;obtain ⟨WZ,hWZ⟩:∃ WZ,Wc.setCell ⟨w.heap.size+1,1,none⟩ (.slice Gp D.past.length gp)=WZ:=⟨_,rfl⟩;have bWc:=set2a (.slice Gn D.now.length gn) b7;(try change ((w7).setCell ⟨w.heap.size+1,0,none⟩ (.slice Gn D.now.length gn)).heap[w.heap.size+1]?=_ at bWc);rw [hWc] at bWc;have xWc:=cell_of_row _ (w.heap.size+1) 1 _ _ _ bWc;have zWc:Wc.frozen? ⟨w.heap.size+1,1,none⟩=false:=unfrozen_of bWc;have bZ:=set2b (.slice Gp D.past.length gp) bWc;rw [hWZ] at bZ;have gZ:wr.grownBy WZ (some (w.heap.size+1)):=(by rw [<- hWZ,<- hWc];exact (g7.trans (grown_set1 _ _ _ _)).trans (grown_set1 _ _ _ _)))
       | (go_at_call 66;(with_reducible refine (H2.out (WX) GX.out).mono ?_);rintro e w7 ⟨rfl,hb7⟩;have g7:=grown_thenB GX.out (hb7.mono (World.grownBy.size GX.out));have b7:=(hb7.block (w.heap.size+1) (by have:=World.grownBy.size GX.out;omega)).trans bX;have x0c:=cell_of_row _ (w.heap.size+1) 0 _ _ _ b7;have x1c:=cell_of_row _ (w.heap.size+1) 1 _ _ _ b7;have z0c:w7.frozen? ⟨w.heap.size+1,0,none⟩=false:=unfrozen_of b7;have z1c:w7.frozen? ⟨w.heap.size+1,1,none⟩=false:=unfrozen_of b7;obtain ⟨Wc,hWc⟩:∃ Wc,(w7).setCell ⟨w.heap.size+1,0,none⟩ (.slice Gn D.now.length gn)=Wc:=⟨_,rfl⟩;obtain ⟨WZ,hWZ⟩:∃ WZ,Wc.setCell ⟨w.heap.size+1,1,none⟩ (.slice Gp D.past.length gp)=WZ:=⟨_,rfl⟩;have bWc:=set2a (.slice Gn D.now.length gn) b7;(try change ((w7).setCell ⟨w.heap.size+1,0,none⟩ (.slice Gn D.now.length gn)).heap[w.heap.size+1]?=_ at bWc);rw [hWc] at bWc;have xWc:=cell_of_row _ (w.heap.size+1) 1 _ _ _ bWc;have zWc:Wc.frozen? ⟨w.heap.size+1,1,none⟩=false:=unfrozen_of bWc;have bZ:=set2b (.slice Gp D.past.length gp) bWc;rw [hWZ] at bZ;have gZ:wr.grownBy WZ (some (w.heap.size+1)):=(by rw [<- hWZ,<- hWc];exact (g7.trans (grown_set1 _ _ _ _)).trans (grown_set1 _ _ _ _))))
    all_goals first
     | (go_wp2_with fail;have k0:=cell_of_row _ (w.heap.size+1) 0 _ _ _ b7;have k1:=cell_of_row _ (w.heap.size+1) 1 _ _ _ b7;refine bodyPost_ret (v:=.tuple #[.agg #[.slice Gn D.now.length gn,.slice Gp D.past.length gp],.string (bs (rowText xs))]) (by simp [results,Tryz.f21,go_sem]) rfl ?_;exact ⟨_,_,us,by rw [HV2.out],by rw [HV2.out];exact HKO.out _ g7,HBel.out _ g7⟩)
     | (go_wp2_with fail;have k0:=cell_of_row _ (w.heap.size+1) 0 _ _ _ bZ;have k1:=cell_of_row _ (w.heap.size+1) 1 _ _ _ bZ;refine bodyPost_ret (v:=.tuple #[.agg #[.slice Gn D.now.length gn,.slice Gp D.past.length gp],.string (bs (rowText xs))]) (by simp [results,Tryz.f21,go_sem,k0,k1]) rfl ?_;exact ⟨_,_,us,by rw [HV2.out],by rw [HV2.out];exact HKO.out _ gZ,HBel.out _ gZ⟩)
end
end Go.Proofs.YthpccmkagikhjaaGreatDoor

import Derived.Test.YthpccmkagikhjaaGreatDoorQExactDeskSay5
import Derived.Test.YthpccmkagikhjaaGreatDoorQExactDeskSay6
import Derived.Test.YthpccmkagikhjaaGreatDoorQExactDeskSay19
import Derived.Test.YthpccmkagikhjaaGreatDoorQExactDeskSay20
import Derived.Test.YthpccmkagikhjaaGreatDoorQExactDeskSay22
import Derived.Test.YthpccmkagikhjaaGreatDoorQExactDeskSay23
import Derived.Test.YthpccmkagikhjaaGreatDoorQExactDeskSay24
import Derived.Test.YthpccmkagikhjaaGreatDoorQExactDeskSay26
namespace Go.Proofs.YthpccmkagikhjaaGreatDoor
set_option linter.unusedVariables false
open Go.RowKit
set_option maxRecDepth 8000
set_option maxHeartbeats 2000000
section
attribute [local go_sem ↓] Go.wp_at_zero Go.wp_at_succ
theorem numOr_nn {x:Int} (h:0<=x):numOr x=numL x.toNat:=by rw [numOr,if_neg (by omega)]
def sumQ (L:List (Int×Int)) (r:Int):List UInt8:=if 0<=r∧r<=3 then numOr (sumV L (orderR L r)) else wNone
def AnsP (t:List UInt8) (w:World) (e:Ending) (w':World):Prop:=e=.returned (.string (bs t))∧Below w.heap.size w w'
theorem c_qMany (D:KV) (vn vp:Value) (w:World) (hK:Ks w w.heap.size vn vp D) (hok:deskOk D=true) (hV:LV w w.heap.size) :
  Calls Tryz.prog 130 #[.agg #[vn,vp]] w (AnsP (numL D.now.length) w):=by
 obtain ⟨⟨An,cn,rfl,hcn,hN⟩,Ap,cp,rfl,-,-⟩:=hK
 have hok1:=(deskOk_parts hok).2.1
 have hlen:=cOk_len hok1
 obtain ⟨w0,hw0,hz0,hb0,-,hS⟩:=one_box w (.slice An D.now.length cn) (.slice Ap D.past.length cp)
 obtain ⟨c0,c1⟩:=hS _ (Below.refl _ w0)
 have HC:=Lib.hid (c_itoa D.now.length w0 (by omega) (hV.at hb0))
 clear hS hz0 hN hV
 go_enter Tryz.func130,Tryz.ntmps130
 go_wp2_with fail
 refine HC.out.mono ?_
 rintro e w1 ⟨rfl,hb1⟩
 go_wp2_with fail
 go_ret
 exact ⟨rfl,hb0.trans (hb1.mono hb0.size)⟩
theorem c_qWaits (D:KV) (vn vp:Value) (w:World) (hK:Ks w w.heap.size vn vp D) (hok:deskOk D=true) (hV:LV w w.heap.size) :
  Calls Tryz.prog 131 #[.agg #[vn,vp]] w (AnsP (rowText (waits D.now)) w):=by
 obtain ⟨⟨An,cn,rfl,hcn,hN⟩,Ap,cp,rfl,-,-⟩:=hK
 have hok1:=(deskOk_parts hok).2.1
 have hlen:=cOk_len hok1
 obtain ⟨w0,hw0,hz0,hb0,-,hS⟩:=one_box w (.slice An D.now.length cn) (.slice Ap D.past.length cp)
 obtain ⟨c0,c1⟩:=hS _ (Below.refl _ w0)
 have HC:=Lib.hid (c_iWaitsOf D.now An cn w0 ((hN.below hb0).more hb0.size) (by omega))
 have HT:=Lib.hid (fun (A:Option Addr) (c:Nat) (W:World) (hI:Is W W.heap.size A (waits D.now)) (hb:Below w.heap.size w W)=>c_numbersText (waits D.now) A c W hI (small_waits hok1) (low_waits hok1) (hV.at hb))
 clear hS hz0 hN hV
 go_enter Tryz.func131,Tryz.ntmps131
 go_wp2_with fail
 refine HC.out.mono ?_
 rintro e w1 ⟨v,rfl,o1,hb1⟩
 obtain ⟨A1,a1,rfl,-,-,hI⟩:=o1.form
 have hx:=hb0.trans (hb1.mono hb0.size)
 have H2:=Lib.hid (HT.out A1 a1 w1 hI hx)
 clear c0 c1 hw0 o1 hI
 go_wp2_with fail
 refine H2.out.mono ?_
 rintro e w2 ⟨rfl,hb2⟩
 go_wp2_with fail
 go_ret
 exact ⟨rfl,hx.trans (hb2.mono hx.size)⟩
theorem c_qLeaves (D:KV) (vn vp:Value) (w:World) (hK:Ks w w.heap.size vn vp D) (hok:deskOk D=true) (hV:LV w w.heap.size) :
  Calls Tryz.prog 132 #[.agg #[vn,vp]] w (AnsP (rowText (leaves D.now)) w):=by
 obtain ⟨⟨An,cn,rfl,hcn,hN⟩,Ap,cp,rfl,-,-⟩:=hK
 have hok1:=(deskOk_parts hok).2.1
 have hlen:=cOk_len hok1
 obtain ⟨w0,hw0,hz0,hb0,-,hS⟩:=one_box w (.slice An D.now.length cn) (.slice Ap D.past.length cp)
 obtain ⟨c0,c1⟩:=hS _ (Below.refl _ w0)
 have HC:=Lib.hid (c_iLeavesOf D.now An cn w0 ((hN.below hb0).more hb0.size) (by omega))
 have HT:=Lib.hid (fun (A:Option Addr) (c:Nat) (W:World) (hI:Is W W.heap.size A (leaves D.now)) (hb:Below w.heap.size w W)=>c_numbersText (leaves D.now) A c W hI (small_leaves hok1) (low_leaves hok1) (hV.at hb))
 clear hS hz0 hN hV
 go_enter Tryz.func132,Tryz.ntmps132
 go_wp2_with fail
 refine HC.out.mono ?_
 rintro e w1 ⟨v,rfl,o1,hb1⟩
 obtain ⟨A1,a1,rfl,-,-,hI⟩:=o1.form
 have hx:=hb0.trans (hb1.mono hb0.size)
 have H2:=Lib.hid (HT.out A1 a1 w1 hI hx)
 clear c0 c1 hw0 o1 hI
 go_wp2_with fail
 refine H2.out.mono ?_
 rintro e w2 ⟨rfl,hb2⟩
 go_wp2_with fail
 go_ret
 exact ⟨rfl,hx.trans (hb2.mono hx.size)⟩
theorem c_qLast (D:KV) (vn vp:Value) (w:World) (hK:Ks w w.heap.size vn vp D) (hok:deskOk D=true) (hV:LV w w.heap.size) :
  Calls Tryz.prog 133 #[.agg #[vn,vp]] w (AnsP (rowText (lastR D.now)) w):=by
 obtain ⟨⟨An,cn,rfl,hcn,hN⟩,Ap,cp,rfl,-,-⟩:=hK
 have hok1:=(deskOk_parts hok).2.1
 have hlen:=cOk_len hok1
 obtain ⟨w0,hw0,hz0,hb0,-,hS⟩:=one_box w (.slice An D.now.length cn) (.slice Ap D.past.length cp)
 obtain ⟨c0,c1⟩:=hS _ (Below.refl _ w0)
 have HC:=Lib.hid (c_iLastTimes D.now An cn w0 ((hN.below hb0).more hb0.size) hcn (by omega))
 have HT:=Lib.hid (fun (A:Option Addr) (c:Nat) (W:World) (hI:Is W W.heap.size A (lastR D.now)) (hb:Below w.heap.size w W)=>c_numbersText (lastR D.now) A c W hI (small_last hok1) (low_last hok1) (hV.at hb))
 clear hS hz0 hN hV
 go_enter Tryz.func133,Tryz.ntmps133
 go_wp2_with fail
 refine HC.out.mono ?_
 rintro e w1 ⟨v,rfl,o1,hb1⟩
 obtain ⟨A1,a1,rfl,-,-,hI⟩:=o1.form
 have hx:=hb0.trans (hb1.mono hb0.size)
 have H2:=Lib.hid (HT.out A1 a1 w1 hI hx)
 clear c0 c1 hw0 o1 hI
 go_wp2_with fail
 refine H2.out.mono ?_
 rintro e w2 ⟨rfl,hb2⟩
 go_wp2_with fail
 go_ret
 exact ⟨rfl,hx.trans (hb2.mono hx.size)⟩
theorem c_qRounds (D:KV) (vn vp:Value) (w:World) (hK:Ks w w.heap.size vn vp D) (hok:deskOk D=true) (hV:LV w w.heap.size) :
  Calls Tryz.prog 134 #[.agg #[vn,vp]] w (AnsP (rowText (roundR D.now)) w):=by
 obtain ⟨⟨An,cn,rfl,hcn,hN⟩,Ap,cp,rfl,-,-⟩:=hK
 have hok1:=(deskOk_parts hok).2.1
 have hlen:=cOk_len hok1
 obtain ⟨w0,hw0,hz0,hb0,-,hS⟩:=one_box w (.slice An D.now.length cn) (.slice Ap D.past.length cp)
 obtain ⟨c0,c1⟩:=hS _ (Below.refl _ w0)
 have HC:=Lib.hid (c_iRoundOrder D.now An cn w0 ((hN.below hb0).more hb0.size) hcn (by omega))
 have HT:=Lib.hid (fun (A:Option Addr) (c:Nat) (W:World) (hI:Is W W.heap.size A (roundR D.now)) (hb:Below w.heap.size w W)=>c_numbersText (roundR D.now) A c W hI (small_rounds hok1) (low_rounds hok1) (hV.at hb))
 clear hS hz0 hN hV
 go_enter Tryz.func134,Tryz.ntmps134
 go_wp2_with fail
 refine HC.out.mono ?_
 rintro e w1 ⟨v,rfl,o1,hb1⟩
 obtain ⟨A1,a1,rfl,-,-,hI⟩:=o1.form
 have hx:=hb0.trans (hb1.mono hb0.size)
 have H2:=Lib.hid (HT.out A1 a1 w1 hI hx)
 clear c0 c1 hw0 o1 hI
 go_wp2_with fail
 refine H2.out.mono ?_
 rintro e w2 ⟨rfl,hb2⟩
 go_wp2_with fail
 go_ret
 exact ⟨rfl,hx.trans (hb2.mono hx.size)⟩
theorem c_qOrder (D:KV) (vn vp:Value) (r:Int) (w:World) (hK:Ks w w.heap.size vn vp D) (hok:deskOk D=true) (hV:LV w w.heap.size) :
  Calls Tryz.prog 140 #[.agg #[vn,vp],.int .i64 r] w (AnsP (rowText (orderR D.now r)) w):=by
 obtain ⟨⟨An,cn,rfl,hcn,hN⟩,Ap,cp,rfl,-,-⟩:=hK
 have hok1:=(deskOk_parts hok).2.1
 have hlen:=cOk_len hok1
 obtain ⟨w0,hw0,hz0,hb0,-,hS⟩:=one_box w (.slice An D.now.length cn) (.slice Ap D.past.length cp)
 obtain ⟨c0,c1⟩:=hS _ (Below.refl _ w0)
 have HC:=Lib.hid (c_iOrderBy D.now An cn r w0 ((hN.below hb0).more hb0.size) hcn (by omega))
 have HT:=Lib.hid (fun (A:Option Addr) (c:Nat) (W:World) (hI:Is W W.heap.size A (orderR D.now r)) (hb:Below w.heap.size w W)=>c_numbersText (orderR D.now r) A c W hI (small_order _ _) (low_order _ _) (hV.at hb))
 clear hS hz0 hN hV
 go_enter Tryz.func140,Tryz.ntmps140
 go_wp2_with fail
 refine HC.out.mono ?_
 rintro e w1 ⟨v,rfl,o1,hb1⟩
 obtain ⟨A1,a1,rfl,-,-,hI⟩:=o1.form
 have hx:=hb0.trans (hb1.mono hb0.size)
 have H2:=Lib.hid (HT.out A1 a1 w1 hI hx)
 clear c0 c1 hw0 o1 hI
 go_wp2_with fail
 refine H2.out.mono ?_
 rintro e w2 ⟨rfl,hb2⟩
 go_wp2_with fail
 go_ret
 exact ⟨rfl,hx.trans (hb2.mono hx.size)⟩
theorem c_qNeed (D:KV) (vn vp:Value) (w:World) (hK:Ks w w.heap.size vn vp D) (hok:deskOk D=true) (hV:LV w w.heap.size) :
  Calls Tryz.prog 136 #[.agg #[vn,vp]] w (AnsP (numL (needOf D.now).toNat) w):=by
 obtain ⟨⟨An,cn,rfl,hcn,hN⟩,Ap,cp,rfl,-,-⟩:=hK
 have hok1:=(deskOk_parts hok).2.1
 have hlen:=cOk_len hok1
 obtain ⟨w0,hw0,hz0,hb0,-,hS⟩:=one_box w (.slice An D.now.length cn) (.slice Ap D.past.length cp)
 obtain ⟨c0,c1⟩:=hS _ (Below.refl _ w0)
 have HC:=Lib.hid (c_iNeedOf D.now An cn w0 ((hN.below hb0).more hb0.size) (by omega))
 have HT:=Lib.hid (fun (W:World) (hb:Below w.heap.size w W)=>c_numberText (needOf D.now) W (by have:=need_small hok1;omega) (by have:=need_small hok1;omega) (hV.at hb))
 have HN:=Lib.hid (show numOr (needOf D.now)=numL (needOf D.now).toNat from by rw [numOr_nn (need_small hok1).1])
 clear hS hz0 hN hV
 go_enter Tryz.func136,Tryz.ntmps136
 go_wp2_with fail
 refine HC.out.mono ?_
 rintro e w1 ⟨rfl,hb1⟩
 have hx:=hb0.trans (hb1.mono hb0.size)
 have H2:=Lib.hid (HT.out w1 hx)
 clear c0 c1 hw0
 go_wp2_with fail
 refine H2.out.mono ?_
 rintro e w2 ⟨rfl,hb2⟩
 go_wp2_with fail
 go_ret
 exact ⟨by rw [<- HN.out];rfl,hx.trans (hb2.mono hx.size)⟩
theorem c_qLeast (D:KV) (vn vp:Value) (w:World) (hK:Ks w w.heap.size vn vp D) (hok:deskOk D=true) (hV:LV w w.heap.size) :
  Calls Tryz.prog 137 #[.agg #[vn,vp]] w (AnsP (numL (leastV D.now).toNat) w):=by
 obtain ⟨⟨An,cn,rfl,hcn,hN⟩,Ap,cp,rfl,-,-⟩:=hK
 have hok1:=(deskOk_parts hok).2.1
 have hlen:=cOk_len hok1
 obtain ⟨w0,hw0,hz0,hb0,-,hS⟩:=one_box w (.slice An D.now.length cn) (.slice Ap D.past.length cp)
 obtain ⟨c0,c1⟩:=hS _ (Below.refl _ w0)
 have HC:=Lib.hid (c_iLeastSum D.now An cn w0 ((hN.below hb0).more hb0.size) hcn (by omega))
 have HT:=Lib.hid (fun (W:World) (hb:Below w.heap.size w W)=>c_numberText (leastV D.now) W (by have:=(least_sum hok1).2;omega) (by have:=(least_sum hok1).2;omega) (hV.at hb))
 have HN:=Lib.hid (show numOr (leastV D.now)=numL (leastV D.now).toNat from by rw [numOr_nn (least_sum hok1).2.1])
 clear hS hz0 hN hV
 go_enter Tryz.func137,Tryz.ntmps137
 go_wp2_with fail
 refine HC.out.mono ?_
 rintro e w1 ⟨rfl,hb1⟩
 have hx:=hb0.trans (hb1.mono hb0.size)
 have H2:=Lib.hid (HT.out w1 hx)
 clear c0 c1 hw0
 go_wp2_with fail
 refine H2.out.mono ?_
 rintro e w2 ⟨rfl,hb2⟩
 go_wp2_with fail
 go_ret
 exact ⟨by rw [<- HN.out];rfl,hx.trans (hb2.mono hx.size)⟩
theorem c_qIdle (D:KV) (vn vp:Value) (w:World) (hK:Ks w w.heap.size vn vp D) (hok:deskOk D=true) (hV:LV w w.heap.size) :
  Calls Tryz.prog 138 #[.agg #[vn,vp]] w (AnsP (numL (idleV D.now).toNat) w):=by
 obtain ⟨⟨An,cn,rfl,hcn,hN⟩,Ap,cp,rfl,-,-⟩:=hK
 have hok1:=(deskOk_parts hok).2.1
 have hlen:=cOk_len hok1
 obtain ⟨w0,hw0,hz0,hb0,-,hS⟩:=one_box w (.slice An D.now.length cn) (.slice Ap D.past.length cp)
 obtain ⟨c0,c1⟩:=hS _ (Below.refl _ w0)
 have HC:=Lib.hid (c_iIdleUntil D.now An cn w0 ((hN.below hb0).more hb0.size) (by omega))
 have HT:=Lib.hid (fun (W:World) (hb:Below w.heap.size w W)=>c_numberText (idleV D.now) W (by have:=idle_small hok1;omega) (by have:=idle_small hok1;omega) (hV.at hb))
 have HN:=Lib.hid (show numOr (idleV D.now)=numL (idleV D.now).toNat from by rw [numOr_nn (idle_small hok1).1])
 clear hS hz0 hN hV
 go_enter Tryz.func138,Tryz.ntmps138
 go_wp2_with fail
 refine HC.out.mono ?_
 rintro e w1 ⟨rfl,hb1⟩
 have hx:=hb0.trans (hb1.mono hb0.size)
 have H2:=Lib.hid (HT.out w1 hx)
 clear c0 c1 hw0
 go_wp2_with fail
 refine H2.out.mono ?_
 rintro e w2 ⟨rfl,hb2⟩
 go_wp2_with fail
 go_ret
 exact ⟨by rw [<- HN.out];rfl,hx.trans (hb2.mono hx.size)⟩
theorem c_qWork (D:KV) (vn vp:Value) (r:Int) (w:World) (hK:Ks w w.heap.size vn vp D) (hok:deskOk D=true) (hV:LV w w.heap.size) :
  Calls Tryz.prog 139 #[.agg #[vn,vp],.int .i64 r] w (AnsP (numOr (workV D.now r)) w):=by
 obtain ⟨⟨An,cn,rfl,hcn,hN⟩,Ap,cp,rfl,-,-⟩:=hK
 have hok1:=(deskOk_parts hok).2.1
 have hlen:=cOk_len hok1
 obtain ⟨w0,hw0,hz0,hb0,-,hS⟩:=one_box w (.slice An D.now.length cn) (.slice Ap D.past.length cp)
 obtain ⟨c0,c1⟩:=hS _ (Below.refl _ w0)
 have HC:=Lib.hid (c_iWorkAt D.now An cn r w0 ((hN.below hb0).more hb0.size) (by omega))
 have HT:=Lib.hid (fun (W:World) (hb:Below w.heap.size w W)=>c_numberText (workV D.now r) W (work_low _ _) (work_small _ _) (hV.at hb))
 clear hS hz0 hN hV
 go_enter Tryz.func139,Tryz.ntmps139
 go_wp2_with fail
 refine HC.out.mono ?_
 rintro e w1 ⟨rfl,hb1⟩
 have hx:=hb0.trans (hb1.mono hb0.size)
 have H2:=Lib.hid (HT.out w1 hx)
 clear c0 c1 hw0
 go_wp2_with fail
 refine H2.out.mono ?_
 rintro e w2 ⟨rfl,hb2⟩
 go_wp2_with fail
 go_ret
 exact ⟨rfl,hx.trans (hb2.mono hx.size)⟩
theorem c_qBeside (D:KV) (vn vp:Value) (r:Int) (w:World) (hK:Ks w w.heap.size vn vp D) (hok:deskOk D=true) (hV:LV w w.heap.size) :
  Calls Tryz.prog 142 #[.agg #[vn,vp],.int .i64 r] w (AnsP (numOr (waitSumV D.now r)) w):=by
 obtain ⟨⟨An,cn,rfl,hcn,hN⟩,Ap,cp,rfl,-,-⟩:=hK
 have hok1:=(deskOk_parts hok).2.1
 have hlen:=cOk_len hok1
 obtain ⟨w0,hw0,hz0,hb0,-,hS⟩:=one_box w (.slice An D.now.length cn) (.slice Ap D.past.length cp)
 obtain ⟨c0,c1⟩:=hS _ (Below.refl _ w0)
 have HC:=Lib.hid (c_iWaitSum D.now An cn r w0 ((hN.below hb0).more hb0.size) hcn (by omega))
 have HT:=Lib.hid (fun (W:World) (hb:Below w.heap.size w W)=>c_numberText (waitSumV D.now r) W (waitsum_low _ _) (waitsum_small _ _) (hV.at hb))
 clear hS hz0 hN hV
 go_enter Tryz.func142,Tryz.ntmps142
 go_wp2_with fail
 refine HC.out.mono ?_
 rintro e w1 ⟨rfl,hb1⟩
 have hx:=hb0.trans (hb1.mono hb0.size)
 have H2:=Lib.hid (HT.out w1 hx)
 clear c0 c1 hw0
 go_wp2_with fail
 refine H2.out.mono ?_
 rintro e w2 ⟨rfl,hb2⟩
 go_wp2_with fail
 go_ret
 exact ⟨rfl,hx.trans (hb2.mono hx.size)⟩
theorem c_qBusy (D:KV) (vn vp:Value) (w:World) (hK:Ks w w.heap.size vn vp D) (hok:deskOk D=true) (hV:LV w w.heap.size) :
  Calls Tryz.prog 135 #[.agg #[vn,vp]] w (AnsP (rowText (rowB D.now)) w):=by
 obtain ⟨⟨An,cn,rfl,hcn,hN⟩,Ap,cp,rfl,-,-⟩:=hK
 have hok1:=(deskOk_parts hok).2.1
 have hlen:=cOk_len hok1
 obtain ⟨w0,hw0,hz0,hb0,-,hS⟩:=one_box w (.slice An D.now.length cn) (.slice Ap D.past.length cp)
 obtain ⟨c0,c1⟩:=hS _ (Below.refl _ w0)
 have hbl:=busyP_len D.now
 have HC:=Lib.hid (c_iBusyOf D.now An cn w0 ((hN.below hb0).more hb0.size) (by omega))
 have hfl:(rows (busyP D.now)).flatten.length<=1000000:=(small_busy D.now).1
 have HCc:=Lib.hid (fun (A:Option Addr) (c:Nat) (W:World) (hI:Iss W W.heap.size A (rows (busyP D.now)))=>c_concat (rows (busyP D.now)) A c W hI (by rw [rows_len];omega) hfl)
 have HT:=Lib.hid (fun (A:Option Addr) (c:Nat) (W:World) (hI:Is W W.heap.size A (rowB D.now)) (hb:Below w.heap.size w W)=>c_numbersText (rowB D.now) A c W hI (small_busy _) (low_busy _) (hV.at hb))
 clear hS hz0 hN hV hfl
 go_enter Tryz.func135,Tryz.ntmps135
 go_wp2_with fail
 refine HC.out.mono ?_
 rintro e w1 ⟨v,rfl,⟨vs,o1⟩,hb1⟩
 obtain ⟨A1,a1,rfl,hI⟩:=o1.iss
 have hx:=hb0.trans (hb1.mono hb0.size)
 have H2:=Lib.hid (HCc.out A1 a1 w1 hI)
 clear c0 c1 hw0 o1 hI
 go_wp2_with fail
 refine H2.out.mono ?_
 rintro e w2 ⟨v,rfl,o2,hb2⟩
 have o2:IO w2 w1.heap.size v (rowB D.now):=o2
 obtain ⟨A2,a2,rfl,-,-,hI⟩:=o2.form
 have hx2:=hx.trans (hb2.mono hx.size)
 have H3:=Lib.hid (HT.out A2 a2 w2 hI hx2)
 clear o2 hI
 go_wp2_with fail
 refine H3.out.mono ?_
 rintro e w3 ⟨rfl,hb3⟩
 go_wp2_with fail
 go_ret
 exact ⟨rfl,hx2.trans (hb3.mono hx2.size)⟩
theorem c_qSum (D:KV) (vn vp:Value) (r:Int) (w:World) (hK:Ks w w.heap.size vn vp D) (hok:deskOk D=true) (hV:LV w w.heap.size) :
  Calls Tryz.prog 141 #[.agg #[vn,vp],.int .i64 r] w (AnsP (sumQ D.now r) w):=by
 obtain ⟨⟨An,cn,rfl,hcn,hN⟩,Ap,cp,rfl,-,-⟩:=hK
 have hok1:=(deskOk_parts hok).2.1
 have hlen:=cOk_len hok1
 obtain ⟨w0,hw0,hz0,hb0,-,hS⟩:=one_box w (.slice An D.now.length cn) (.slice Ap D.past.length cp)
 obtain ⟨c0,c1⟩:=hS _ (Below.refl _ w0)
 by_cases hr:0<=r∧r<=3
 ·have HD:=Lib.hid (show decide ((0:Int)<=r∧r<=3)=true from decide_eq_true hr)
  have HV:=Lib.hid (show sumQ D.now r=numOr (sumV D.now (orderR D.now r)) from if_pos hr)
  have hol:=(small_order D.now r).1
  have HO:=Lib.hid (fun (W:World) (hb:Below w.heap.size w W)=>c_iOrderBy D.now An cn r W ((hN.below hb).more hb.size) hcn (by omega))
  have HSm:=Lib.hid (fun (O:Option Addr) (d:Nat) (W:World) (hb:Below w.heap.size w W) (hO:Is W W.heap.size O (orderR D.now r))=>c_iSumOf D.now (orderR D.now r) An O cn d W ((hN.below hb).more hb.size) hO (by omega) (by omega))
  have HT:=Lib.hid (fun (W:World) (hb:Below w.heap.size w W)=>c_numberText (sumV D.now (orderR D.now r)) W (sum_low _ _) (sum_small _ _) (hV.at hb))
  have HS:=Lib.hid (fun (W:World) (hb:Below w0.heap.size w0 W)=>(hS W (hb.mono (by omega))).1)
  have HB0:=Lib.hid (fun (W:World) (h:Below w0.heap.size w0 W)=>hb0.trans (h.mono hb0.size))
  have hd0:Below w0.heap.size w0 w0.drew:=(Below.refl _ w0).drew
  clear hS hz0 hN hV hol hr
  go_enter Tryz.func141,Tryz.ntmps141
  go_wp2_with fail
  refine (c_within _ _ _ _).mono ?_
  rintro e w' ⟨rfl,rfl⟩
  rw [HD.out]
  go_wp2_with fail
  clear hw0
  go_region_held3 (fun W=>W.cell? ⟨w.heap.size,0,none⟩=some (.slice An D.now.length cn))
   (first
     | exact HS.out _ hx7
     | exact HS.out _ hx6
     | exact HS.out _ hx5
     | go_keep)
   (first
     | (go_at_call 174;refine (HO.out w0.drew (HB0.out _ hd0)).mono ?_;rintro e w5 ⟨v,rfl,o5,hb5⟩;obtain ⟨A5,a5,rfl,-,-,hI5⟩:=o5.form;have hx5:Below w0.heap.size w0 w5:=hd0.trans hb5)
     | (go_at_call 175;refine (HSm.out A5 a5 w5 (HB0.out _ hx5) hI5).mono ?_;rintro e w6 ⟨rfl,hb6⟩;have hx6:Below w0.heap.size w0 w6:=hx5.trans (hb6.mono hx5.size))
     | (go_at_call 169;refine (HT.out w6 (HB0.out _ hx6)).mono ?_;rintro e w7 ⟨rfl,hb7⟩;have hx7:Below w0.heap.size w0 w7:=hx6.trans (hb7.mono hx6.size))
     | fail)
  have HB:=Lib.hid (HB0.out _ hx7)
  clear hx7 hx6 hx5 hI5 o5 hd0 c0 c1
  go_wp2_with fail
  go_ret
  exact ⟨by rw [HV.out];rfl,HB.out⟩
 ·have HD:=Lib.hid (show decide ((0:Int)<=r∧r<=3)=false from decide_eq_false hr)
  have HV:=Lib.hid (show sumQ D.now r=wNone from if_neg hr)
  clear hS hz0 hN hV hr
  go_enter Tryz.func141,Tryz.ntmps141
  go_wp2_with fail
  refine (c_within _ _ _ _).mono ?_
  rintro e w' ⟨rfl,rfl⟩
  rw [HD.out]
  go_wp2_with fail
  go_ret
  exact ⟨by rw [HV.out];rfl,hb0⟩
end
section
attribute [local go_sem ↓] Go.wp_at_zero Go.wp_at_succ
theorem bs_inj {x y:List UInt8} (h:bs x=bs y):x=y:=by rw [<- bs_list x,h,bs_list]
theorem mapT1:Tryz.prog.underlying 136=some (.map 9 134):=by kernel_rfl
theorem mapT2:Tryz.prog.underlying 140=some (.map 9 138):=by kernel_rfl
theorem mapKs:Tryz.prog.underlying 9=some .string:=by kernel_rfl
theorem look_skip {s:ByteArray} {x:ByteArray×Value} {r:List (ByteArray×Value)} (h:¬ s=x.1):lookL s (x::r)=lookL s r:=if_neg h
theorem look_no {s:List UInt8} (h:NotWord s):lookL (bs s) qL=none:=by
 obtain ⟨h1,h2,h3,h4,h5,h6,h7,h8,h9⟩:=h
 unfold qL
 refine (look_skip (fun e=>h1 (bs_inj (show bs s=bs wMany from e)))).trans ?_
 refine (look_skip (fun e=>h2 (bs_inj (show bs s=bs wWaits from e)))).trans ?_
 refine (look_skip (fun e=>h3 (bs_inj (show bs s=bs wLeaves from e)))).trans ?_
 refine (look_skip (fun e=>h4 (bs_inj (show bs s=bs wLast from e)))).trans ?_
 refine (look_skip (fun e=>h5 (bs_inj (show bs s=bs wRounds from e)))).trans ?_
 refine (look_skip (fun e=>h6 (bs_inj (show bs s=bs wBusy from e)))).trans ?_
 refine (look_skip (fun e=>h7 (bs_inj (show bs s=bs wNeed from e)))).trans ?_
 refine (look_skip (fun e=>h8 (bs_inj (show bs s=bs wLeast from e)))).trans ?_
 refine (look_skip (fun e=>h9 (bs_inj (show bs s=bs wIdle from e)))).trans ?_
 rfl
theorem look2_no {s:List UInt8} (h1:s≠wWork) (h2:s≠wOrder) (h3:s≠wSum) (h4:s≠wBeside):lookL (bs s) nqL=none:=by
 unfold nqL
 refine (look_skip (fun e=>h1 (bs_inj (show bs s=bs wWork from e)))).trans ?_
 refine (look_skip (fun e=>h2 (bs_inj (show bs s=bs wOrder from e)))).trans ?_
 refine (look_skip (fun e=>h3 (bs_inj (show bs s=bs wSum from e)))).trans ?_
 refine (look_skip (fun e=>h4 (bs_inj (show bs s=bs wBeside from e)))).trans ?_
 rfl
theorem askW_sum (L:List (Int×Int)) (n:Nat):askW L wSum (n:Int)=sumQ L (n:Int):=by
 rw [askW,if_neg (by decide),if_neg (by decide),if_pos rfl,sumQ]
 by_cases h:(n:Int) < 4
 ·rw [if_pos h,if_pos (by omega)]
 ·rw [if_neg h,if_neg (by omega)]
theorem askW_work (L:List (Int×Int)) (n:Int):askW L wWork n=numOr (workV L n):=by rw [askW,if_pos rfl]
theorem askW_order (L:List (Int×Int)) (n:Int):askW L wOrder n=rowText (orderR L n):=by rw [askW,if_neg (by decide),if_pos rfl]
theorem askW_beside (L:List (Int×Int)) (n:Int):askW L wBeside n=numOr (waitSumV L n):=by rw [askW,if_neg (by decide),if_neg (by decide),if_neg (by decide),if_pos rfl]
theorem askW_no (L:List (Int×Int)) {u:List UInt8} (n:Int) (h1:u≠wWork) (h2:u≠wOrder) (h3:u≠wSum) (h4:u≠wBeside):askW L u n=wWhat:=by rw [askW,if_neg h1,if_neg h2,if_neg h3,if_neg h4]
theorem c_cut32 (t:List UInt8) (ht:t.length<=100000000) (w:World) (hV:LV w w.heap.size) :
  Calls Tryz.prog 43 #[.string (bs t),.string ⟨#[32]⟩] w fun e w'=>e=.returned (.tuple #[.string (bs (Lib.cut t [32]).1),.string (bs (Lib.cut t [32]).2.1),.bool (Lib.cut t [32]).2.2])∧Below w.heap.size w w':=by
 obtain ⟨-,m,hm⟩:=hV.2.2
 refine (Tryz.strings_Cut (bs t) ⟨#[32]⟩ m w (by rw [bs_size];omega) hm).mono ?_
 rintro e w' ⟨he,n,hw⟩
 exact ⟨he,by rw [hw];exact Below.drewN (Below.refl _ w) n⟩
theorem c_ansMany (D:KV) (vn vp:Value) (w:World) (hK:Ks w w.heap.size vn vp D) (hok:deskOk D=true) (hV:LV w w.heap.size) :
  Calls Tryz.prog 51 #[.agg #[vn,vp],.string (bs wMany)] w (AnsP (askL D.now wMany) w):=by
 have HQ:=Lib.hid (fun (W:World) (hb:Below w.heap.size w W)=>c_qMany D vn vp W ((hK.below hb).more hb.size) hok (hV.at hb))
 obtain ⟨⟨An,cn,rfl,-,-⟩,Ap,cp,rfl,-,-⟩:=hK
 obtain ⟨w0,hw0,hz0,hb0,-,hS⟩:=one_box w (.slice An D.now.length cn) (.slice Ap D.past.length cp)
 obtain ⟨c0,c1⟩:=hS _ (Below.refl _ w0)
 have HV:=Lib.hid (ask_Many D.now)
 clear hV hok
 go_enter Tryz.func51,Tryz.ntmps51
 go_wp2_with fail
 refine (c_questions _).mono ?_
 rintro e w1 ⟨rfl,hw1⟩
 have hx1:Below w0.heap.size w0 w1:=by rw [hw1];exact (Below.refl _ w0).alloc (Nat.le_refl _) _
 have hq:(Instr.lookup 136 (.map (some w0.heap.size)) (.string (bs wMany)) true).run Tryz.prog w1=.ok (.tuple #[.func (.func 130) #[] #[],.bool true]) w1:=by
  rw [hw1];exact run_lookF_yes mapT1 mapKs (heap_alloc_new _ _) rfl
 obtain ⟨d0,d1⟩:=hS w1 (hx1.mono (by omega))
 have hx:=hb0.trans (hx1.mono hb0.size)
 clear c0 c1 hw0 hw1 hS hz0
 go_wp2_with fail
 refine (HQ.out _ hx).mono ?_
 rintro e w2 ⟨rfl,hb2⟩
 go_wp2_with fail
 go_ret
 exact ⟨by rw [HV.out];rfl,hx.trans (hb2.mono hx.size)⟩
theorem c_ansWaits (D:KV) (vn vp:Value) (w:World) (hK:Ks w w.heap.size vn vp D) (hok:deskOk D=true) (hV:LV w w.heap.size) :
  Calls Tryz.prog 51 #[.agg #[vn,vp],.string (bs wWaits)] w (AnsP (askL D.now wWaits) w):=by
 have HQ:=Lib.hid (fun (W:World) (hb:Below w.heap.size w W)=>c_qWaits D vn vp W ((hK.below hb).more hb.size) hok (hV.at hb))
 obtain ⟨⟨An,cn,rfl,-,-⟩,Ap,cp,rfl,-,-⟩:=hK
 obtain ⟨w0,hw0,hz0,hb0,-,hS⟩:=one_box w (.slice An D.now.length cn) (.slice Ap D.past.length cp)
 obtain ⟨c0,c1⟩:=hS _ (Below.refl _ w0)
 have HV:=Lib.hid (ask_Waits D.now)
 clear hV hok
 go_enter Tryz.func51,Tryz.ntmps51
 go_wp2_with fail
 refine (c_questions _).mono ?_
 rintro e w1 ⟨rfl,hw1⟩
 have hx1:Below w0.heap.size w0 w1:=by rw [hw1];exact (Below.refl _ w0).alloc (Nat.le_refl _) _
 have hq:(Instr.lookup 136 (.map (some w0.heap.size)) (.string (bs wWaits)) true).run Tryz.prog w1=.ok (.tuple #[.func (.func 131) #[] #[],.bool true]) w1:=by
  rw [hw1];exact run_lookF_yes mapT1 mapKs (heap_alloc_new _ _) rfl
 obtain ⟨d0,d1⟩:=hS w1 (hx1.mono (by omega))
 have hx:=hb0.trans (hx1.mono hb0.size)
 clear c0 c1 hw0 hw1 hS hz0
 go_wp2_with fail
 refine (HQ.out _ hx).mono ?_
 rintro e w2 ⟨rfl,hb2⟩
 go_wp2_with fail
 go_ret
 exact ⟨by rw [HV.out];rfl,hx.trans (hb2.mono hx.size)⟩
theorem c_ansLeaves (D:KV) (vn vp:Value) (w:World) (hK:Ks w w.heap.size vn vp D) (hok:deskOk D=true) (hV:LV w w.heap.size) :
  Calls Tryz.prog 51 #[.agg #[vn,vp],.string (bs wLeaves)] w (AnsP (askL D.now wLeaves) w):=by
 have HQ:=Lib.hid (fun (W:World) (hb:Below w.heap.size w W)=>c_qLeaves D vn vp W ((hK.below hb).more hb.size) hok (hV.at hb))
 obtain ⟨⟨An,cn,rfl,-,-⟩,Ap,cp,rfl,-,-⟩:=hK
 obtain ⟨w0,hw0,hz0,hb0,-,hS⟩:=one_box w (.slice An D.now.length cn) (.slice Ap D.past.length cp)
 obtain ⟨c0,c1⟩:=hS _ (Below.refl _ w0)
 have HV:=Lib.hid (ask_Leaves D.now)
 clear hV hok
 go_enter Tryz.func51,Tryz.ntmps51
 go_wp2_with fail
 refine (c_questions _).mono ?_
 rintro e w1 ⟨rfl,hw1⟩
 have hx1:Below w0.heap.size w0 w1:=by rw [hw1];exact (Below.refl _ w0).alloc (Nat.le_refl _) _
 have hq:(Instr.lookup 136 (.map (some w0.heap.size)) (.string (bs wLeaves)) true).run Tryz.prog w1=.ok (.tuple #[.func (.func 132) #[] #[],.bool true]) w1:=by
  rw [hw1];exact run_lookF_yes mapT1 mapKs (heap_alloc_new _ _) rfl
 obtain ⟨d0,d1⟩:=hS w1 (hx1.mono (by omega))
 have hx:=hb0.trans (hx1.mono hb0.size)
 clear c0 c1 hw0 hw1 hS hz0
 go_wp2_with fail
 refine (HQ.out _ hx).mono ?_
 rintro e w2 ⟨rfl,hb2⟩
 go_wp2_with fail
 go_ret
 exact ⟨by rw [HV.out];rfl,hx.trans (hb2.mono hx.size)⟩
theorem c_ansLast (D:KV) (vn vp:Value) (w:World) (hK:Ks w w.heap.size vn vp D) (hok:deskOk D=true) (hV:LV w w.heap.size) :
  Calls Tryz.prog 51 #[.agg #[vn,vp],.string (bs wLast)] w (AnsP (askL D.now wLast) w):=by
 have HQ:=Lib.hid (fun (W:World) (hb:Below w.heap.size w W)=>c_qLast D vn vp W ((hK.below hb).more hb.size) hok (hV.at hb))
 obtain ⟨⟨An,cn,rfl,-,-⟩,Ap,cp,rfl,-,-⟩:=hK
 obtain ⟨w0,hw0,hz0,hb0,-,hS⟩:=one_box w (.slice An D.now.length cn) (.slice Ap D.past.length cp)
 obtain ⟨c0,c1⟩:=hS _ (Below.refl _ w0)
 have HV:=Lib.hid (ask_Last D.now)
 clear hV hok
 go_enter Tryz.func51,Tryz.ntmps51
 go_wp2_with fail
 refine (c_questions _).mono ?_
 rintro e w1 ⟨rfl,hw1⟩
 have hx1:Below w0.heap.size w0 w1:=by rw [hw1];exact (Below.refl _ w0).alloc (Nat.le_refl _) _
 have hq:(Instr.lookup 136 (.map (some w0.heap.size)) (.string (bs wLast)) true).run Tryz.prog w1=.ok (.tuple #[.func (.func 133) #[] #[],.bool true]) w1:=by
  rw [hw1];exact run_lookF_yes mapT1 mapKs (heap_alloc_new _ _) rfl
 obtain ⟨d0,d1⟩:=hS w1 (hx1.mono (by omega))
 have hx:=hb0.trans (hx1.mono hb0.size)
 clear c0 c1 hw0 hw1 hS hz0
 go_wp2_with fail
 refine (HQ.out _ hx).mono ?_
 rintro e w2 ⟨rfl,hb2⟩
 go_wp2_with fail
 go_ret
 exact ⟨by rw [HV.out];rfl,hx.trans (hb2.mono hx.size)⟩
theorem c_ansRounds (D:KV) (vn vp:Value) (w:World) (hK:Ks w w.heap.size vn vp D) (hok:deskOk D=true) (hV:LV w w.heap.size) :
  Calls Tryz.prog 51 #[.agg #[vn,vp],.string (bs wRounds)] w (AnsP (askL D.now wRounds) w):=by
 have HQ:=Lib.hid (fun (W:World) (hb:Below w.heap.size w W)=>c_qRounds D vn vp W ((hK.below hb).more hb.size) hok (hV.at hb))
 obtain ⟨⟨An,cn,rfl,-,-⟩,Ap,cp,rfl,-,-⟩:=hK
 obtain ⟨w0,hw0,hz0,hb0,-,hS⟩:=one_box w (.slice An D.now.length cn) (.slice Ap D.past.length cp)
 obtain ⟨c0,c1⟩:=hS _ (Below.refl _ w0)
 have HV:=Lib.hid (ask_Rounds D.now)
 clear hV hok
 go_enter Tryz.func51,Tryz.ntmps51
 go_wp2_with fail
 refine (c_questions _).mono ?_
 rintro e w1 ⟨rfl,hw1⟩
 have hx1:Below w0.heap.size w0 w1:=by rw [hw1];exact (Below.refl _ w0).alloc (Nat.le_refl _) _
 have hq:(Instr.lookup 136 (.map (some w0.heap.size)) (.string (bs wRounds)) true).run Tryz.prog w1=.ok (.tuple #[.func (.func 134) #[] #[],.bool true]) w1:=by
  rw [hw1];exact run_lookF_yes mapT1 mapKs (heap_alloc_new _ _) rfl
 obtain ⟨d0,d1⟩:=hS w1 (hx1.mono (by omega))
 have hx:=hb0.trans (hx1.mono hb0.size)
 clear c0 c1 hw0 hw1 hS hz0
 go_wp2_with fail
 refine (HQ.out _ hx).mono ?_
 rintro e w2 ⟨rfl,hb2⟩
 go_wp2_with fail
 go_ret
 exact ⟨by rw [HV.out];rfl,hx.trans (hb2.mono hx.size)⟩
theorem c_ansBusy (D:KV) (vn vp:Value) (w:World) (hK:Ks w w.heap.size vn vp D) (hok:deskOk D=true) (hV:LV w w.heap.size) :
  Calls Tryz.prog 51 #[.agg #[vn,vp],.string (bs wBusy)] w (AnsP (askL D.now wBusy) w):=by
 have HQ:=Lib.hid (fun (W:World) (hb:Below w.heap.size w W)=>c_qBusy D vn vp W ((hK.below hb).more hb.size) hok (hV.at hb))
 obtain ⟨⟨An,cn,rfl,-,-⟩,Ap,cp,rfl,-,-⟩:=hK
 obtain ⟨w0,hw0,hz0,hb0,-,hS⟩:=one_box w (.slice An D.now.length cn) (.slice Ap D.past.length cp)
 obtain ⟨c0,c1⟩:=hS _ (Below.refl _ w0)
 have HV:=Lib.hid (ask_Busy D.now)
 clear hV hok
 go_enter Tryz.func51,Tryz.ntmps51
 go_wp2_with fail
 refine (c_questions _).mono ?_
 rintro e w1 ⟨rfl,hw1⟩
 have hx1:Below w0.heap.size w0 w1:=by rw [hw1];exact (Below.refl _ w0).alloc (Nat.le_refl _) _
 have hq:(Instr.lookup 136 (.map (some w0.heap.size)) (.string (bs wBusy)) true).run Tryz.prog w1=.ok (.tuple #[.func (.func 135) #[] #[],.bool true]) w1:=by
  rw [hw1];exact run_lookF_yes mapT1 mapKs (heap_alloc_new _ _) rfl
 obtain ⟨d0,d1⟩:=hS w1 (hx1.mono (by omega))
 have hx:=hb0.trans (hx1.mono hb0.size)
 clear c0 c1 hw0 hw1 hS hz0
 go_wp2_with fail
 refine (HQ.out _ hx).mono ?_
 rintro e w2 ⟨rfl,hb2⟩
 go_wp2_with fail
 go_ret
 exact ⟨by rw [HV.out];rfl,hx.trans (hb2.mono hx.size)⟩
theorem c_ansNeed (D:KV) (vn vp:Value) (w:World) (hK:Ks w w.heap.size vn vp D) (hok:deskOk D=true) (hV:LV w w.heap.size) :
  Calls Tryz.prog 51 #[.agg #[vn,vp],.string (bs wNeed)] w (AnsP (askL D.now wNeed) w):=by
 have HQ:=Lib.hid (fun (W:World) (hb:Below w.heap.size w W)=>c_qNeed D vn vp W ((hK.below hb).more hb.size) hok (hV.at hb))
 obtain ⟨⟨An,cn,rfl,-,-⟩,Ap,cp,rfl,-,-⟩:=hK
 obtain ⟨w0,hw0,hz0,hb0,-,hS⟩:=one_box w (.slice An D.now.length cn) (.slice Ap D.past.length cp)
 obtain ⟨c0,c1⟩:=hS _ (Below.refl _ w0)
 have HV:=Lib.hid (ask_Need D.now)
 clear hV hok
 go_enter Tryz.func51,Tryz.ntmps51
 go_wp2_with fail
 refine (c_questions _).mono ?_
 rintro e w1 ⟨rfl,hw1⟩
 have hx1:Below w0.heap.size w0 w1:=by rw [hw1];exact (Below.refl _ w0).alloc (Nat.le_refl _) _
 have hq:(Instr.lookup 136 (.map (some w0.heap.size)) (.string (bs wNeed)) true).run Tryz.prog w1=.ok (.tuple #[.func (.func 136) #[] #[],.bool true]) w1:=by
  rw [hw1];exact run_lookF_yes mapT1 mapKs (heap_alloc_new _ _) rfl
 obtain ⟨d0,d1⟩:=hS w1 (hx1.mono (by omega))
 have hx:=hb0.trans (hx1.mono hb0.size)
 clear c0 c1 hw0 hw1 hS hz0
 go_wp2_with fail
 refine (HQ.out _ hx).mono ?_
 rintro e w2 ⟨rfl,hb2⟩
 go_wp2_with fail
 go_ret
 exact ⟨by rw [HV.out];rfl,hx.trans (hb2.mono hx.size)⟩
theorem c_ansLeast (D:KV) (vn vp:Value) (w:World) (hK:Ks w w.heap.size vn vp D) (hok:deskOk D=true) (hV:LV w w.heap.size) :
  Calls Tryz.prog 51 #[.agg #[vn,vp],.string (bs wLeast)] w (AnsP (askL D.now wLeast) w):=by
 have HQ:=Lib.hid (fun (W:World) (hb:Below w.heap.size w W)=>c_qLeast D vn vp W ((hK.below hb).more hb.size) hok (hV.at hb))
 obtain ⟨⟨An,cn,rfl,-,-⟩,Ap,cp,rfl,-,-⟩:=hK
 obtain ⟨w0,hw0,hz0,hb0,-,hS⟩:=one_box w (.slice An D.now.length cn) (.slice Ap D.past.length cp)
 obtain ⟨c0,c1⟩:=hS _ (Below.refl _ w0)
 have HV:=Lib.hid (ask_Least D.now)
 clear hV hok
 go_enter Tryz.func51,Tryz.ntmps51
 go_wp2_with fail
 refine (c_questions _).mono ?_
 rintro e w1 ⟨rfl,hw1⟩
 have hx1:Below w0.heap.size w0 w1:=by rw [hw1];exact (Below.refl _ w0).alloc (Nat.le_refl _) _
 have hq:(Instr.lookup 136 (.map (some w0.heap.size)) (.string (bs wLeast)) true).run Tryz.prog w1=.ok (.tuple #[.func (.func 137) #[] #[],.bool true]) w1:=by
  rw [hw1];exact run_lookF_yes mapT1 mapKs (heap_alloc_new _ _) rfl
 obtain ⟨d0,d1⟩:=hS w1 (hx1.mono (by omega))
 have hx:=hb0.trans (hx1.mono hb0.size)
 clear c0 c1 hw0 hw1 hS hz0
 go_wp2_with fail
 refine (HQ.out _ hx).mono ?_
 rintro e w2 ⟨rfl,hb2⟩
 go_wp2_with fail
 go_ret
 exact ⟨by rw [HV.out];rfl,hx.trans (hb2.mono hx.size)⟩
theorem c_ansIdle (D:KV) (vn vp:Value) (w:World) (hK:Ks w w.heap.size vn vp D) (hok:deskOk D=true) (hV:LV w w.heap.size) :
  Calls Tryz.prog 51 #[.agg #[vn,vp],.string (bs wIdle)] w (AnsP (askL D.now wIdle) w):=by
 have HQ:=Lib.hid (fun (W:World) (hb:Below w.heap.size w W)=>c_qIdle D vn vp W ((hK.below hb).more hb.size) hok (hV.at hb))
 obtain ⟨⟨An,cn,rfl,-,-⟩,Ap,cp,rfl,-,-⟩:=hK
 obtain ⟨w0,hw0,hz0,hb0,-,hS⟩:=one_box w (.slice An D.now.length cn) (.slice Ap D.past.length cp)
 obtain ⟨c0,c1⟩:=hS _ (Below.refl _ w0)
 have HV:=Lib.hid (ask_Idle D.now)
 clear hV hok
 go_enter Tryz.func51,Tryz.ntmps51
 go_wp2_with fail
 refine (c_questions _).mono ?_
 rintro e w1 ⟨rfl,hw1⟩
 have hx1:Below w0.heap.size w0 w1:=by rw [hw1];exact (Below.refl _ w0).alloc (Nat.le_refl _) _
 have hq:(Instr.lookup 136 (.map (some w0.heap.size)) (.string (bs wIdle)) true).run Tryz.prog w1=.ok (.tuple #[.func (.func 138) #[] #[],.bool true]) w1:=by
  rw [hw1];exact run_lookF_yes mapT1 mapKs (heap_alloc_new _ _) rfl
 obtain ⟨d0,d1⟩:=hS w1 (hx1.mono (by omega))
 have hx:=hb0.trans (hx1.mono hb0.size)
 clear c0 c1 hw0 hw1 hS hz0
 go_wp2_with fail
 refine (HQ.out _ hx).mono ?_
 rintro e w2 ⟨rfl,hb2⟩
 go_wp2_with fail
 go_ret
 exact ⟨by rw [HV.out];rfl,hx.trans (hb2.mono hx.size)⟩
theorem c_ansTNo (D:KV) (vn vp:Value) (s u v:List UInt8) (q:Bool) (hl:s.length<=100000000) (hvl:v.length<=100000000) (w:World) (hK:Ks w w.heap.size vn vp D) (hok:deskOk D=true) (hV:LV w w.heap.size) (hnw:NotWord s) (ht:Lib.cut s [32]=(u,v,q)) (hd:okN v 6=false) :
  Calls Tryz.prog 51 #[.agg #[vn,vp],.string (bs s)] w (AnsP (wWhat) w):=by
 have HT:=Lib.hid ht
 have HR:=Lib.hid (fun (W:World) (hb:Below w.heap.size w W)=>c_readNumber v 6 (by omega) hvl W (hV.at hb))
 have HZ:=Lib.hid (numV_no hd)
 obtain ⟨⟨An,cn,rfl,-,-⟩,Ap,cp,rfl,-,-⟩:=hK
 obtain ⟨w0,hw0,hz0,hb0,-,hS⟩:=one_box w (.slice An D.now.length cn) (.slice Ap D.past.length cp)
 obtain ⟨c0,c1⟩:=hS _ (Below.refl _ w0)
 have hle0:w.heap.size+1<=w0.heap.size:=by omega
 clear hz0
 have HC:=Lib.hid (fun (W:World) (hb:Below w.heap.size w W)=>c_cut32 s hl W (hV.at hb))
 have HLk:=Lib.hid (look_no hnw)
 clear hV hok hnw
 go_enter Tryz.func51,Tryz.ntmps51
 go_wp2_with fail
 refine (c_questions _).mono ?_
 rintro e w1 ⟨rfl,hw1⟩
 have hx1:Below w0.heap.size w0 w1:=by rw [hw1];exact (Below.refl _ w0).alloc (Nat.le_refl _) _
 have hq:(Instr.lookup 136 (.map (some w0.heap.size)) (.string (bs s)) true).run Tryz.prog w1=.ok (.tuple #[.nilFunc,.bool false]) w1:=by
  rw [hw1];exact run_lookF_no mapT1 mapKs (heap_alloc_new _ _) (Tryz.zeroValue134 _) HLk.out
 have hx:=hb0.trans (hx1.mono hb0.size)
 clear hw0 hw1 c0 c1
 go_wp2_with fail
 refine (HC.out _ hx).mono ?_
 rintro e w2 ⟨rfl,hb2⟩
 rw [HT.out]
 have hx2:Below w0.heap.size w0 w2:=hx1.trans (hb2.mono hx1.size)
 have hz2:=hx2.size
 clear hq hb2
 go_wp2_with fail
 refine (c_numberQuestions _).mono ?_
 rintro e w3 ⟨rfl,hw3⟩
 have hx3:Below w2.heap.size w2 w3:=by rw [hw3];exact (Below.refl _ w2).alloc (Nat.le_refl _) _
 have hy3:=hx2.trans (hx3.mono hz2)
 have hw:=hb0.trans (hy3.mono hb0.size)
 obtain ⟨f,k,hq2⟩:∃ f k,(Instr.lookup 140 (.map (some w2.heap.size)) (.string (bs u)) true).run Tryz.prog w3=.ok (.tuple #[f,.bool k]) w3:=by
  rw [hw3]
  cases h:lookL (bs u) nqL with
  | none=>exact ⟨_,_,run_lookF_no mapT2 mapKs (heap_alloc_new _ _) (Tryz.zeroValue138 _) h⟩
  | some f=>exact ⟨f,_,run_lookF_yes mapT2 mapKs (heap_alloc_new _ _) h⟩
 cases k with
 | true =>
  have hg0:=Lib.hid hw
  clear hx2 hx3 hy3 hw3 hw
  go_wp2_with fail
  refine (HR.out _ hg0.out).mono ?_
  rintro e w4 ⟨rfl,hb4⟩
  rw [HZ.out]
  clear hq2
  go_wp2_with fail
  go_ret
  exact ⟨rfl,hg0.out.trans (hb4.mono hg0.out.size)⟩
 | false =>
  have hg0:=Lib.hid hw
  clear hx2 hx3 hy3 hw3 hw
  go_wp2_with fail
  refine (HR.out _ hg0.out).mono ?_
  rintro e w4 ⟨rfl,hb4⟩
  rw [HZ.out]
  clear hq2
  go_wp2_with fail
  go_ret
  exact ⟨rfl,hg0.out.trans (hb4.mono hg0.out.size)⟩
theorem c_ansTUn (D:KV) (vn vp:Value) (s u v:List UInt8) (q:Bool) (hl:s.length<=100000000) (hvl:v.length<=100000000) (w:World) (hK:Ks w w.heap.size vn vp D) (hok:deskOk D=true) (hV:LV w w.heap.size) (hnw:NotWord s) (ht:Lib.cut s [32]=(u,v,q)) (hd:okN v 6=true) (h1:u≠wWork) (h2:u≠wOrder) (h3:u≠wSum) (h4:u≠wBeside) :
  Calls Tryz.prog 51 #[.agg #[vn,vp],.string (bs s)] w (AnsP (wWhat) w):=by
 have HT:=Lib.hid ht
 have HR:=Lib.hid (fun (W:World) (hb:Below w.heap.size w W)=>c_readNumber v 6 (by omega) hvl W (hV.at hb))
 have HZ:=Lib.hid (numV_yes hd)
 have HL2:=Lib.hid (look2_no h1 h2 h3 h4)
 obtain ⟨⟨An,cn,rfl,-,-⟩,Ap,cp,rfl,-,-⟩:=hK
 obtain ⟨w0,hw0,hz0,hb0,-,hS⟩:=one_box w (.slice An D.now.length cn) (.slice Ap D.past.length cp)
 obtain ⟨c0,c1⟩:=hS _ (Below.refl _ w0)
 have hle0:w.heap.size+1<=w0.heap.size:=by omega
 clear hz0
 have HC:=Lib.hid (fun (W:World) (hb:Below w.heap.size w W)=>c_cut32 s hl W (hV.at hb))
 have HLk:=Lib.hid (look_no hnw)
 clear hV hok hnw
 go_enter Tryz.func51,Tryz.ntmps51
 go_wp2_with fail
 refine (c_questions _).mono ?_
 rintro e w1 ⟨rfl,hw1⟩
 have hx1:Below w0.heap.size w0 w1:=by rw [hw1];exact (Below.refl _ w0).alloc (Nat.le_refl _) _
 have hq:(Instr.lookup 136 (.map (some w0.heap.size)) (.string (bs s)) true).run Tryz.prog w1=.ok (.tuple #[.nilFunc,.bool false]) w1:=by
  rw [hw1];exact run_lookF_no mapT1 mapKs (heap_alloc_new _ _) (Tryz.zeroValue134 _) HLk.out
 have hx:=hb0.trans (hx1.mono hb0.size)
 clear hw0 hw1 c0 c1
 go_wp2_with fail
 refine (HC.out _ hx).mono ?_
 rintro e w2 ⟨rfl,hb2⟩
 rw [HT.out]
 have hx2:Below w0.heap.size w0 w2:=hx1.trans (hb2.mono hx1.size)
 have hz2:=hx2.size
 clear hq hb2
 go_wp2_with fail
 refine (c_numberQuestions _).mono ?_
 rintro e w3 ⟨rfl,hw3⟩
 have hx3:Below w2.heap.size w2 w3:=by rw [hw3];exact (Below.refl _ w2).alloc (Nat.le_refl _) _
 have hy3:=hx2.trans (hx3.mono hz2)
 have hw:=hb0.trans (hy3.mono hb0.size)
 have hq2:(Instr.lookup 140 (.map (some w2.heap.size)) (.string (bs u)) true).run Tryz.prog w3=.ok (.tuple #[.nilFunc,.bool false]) w3:=by
  rw [hw3];exact run_lookF_no mapT2 mapKs (heap_alloc_new _ _) (Tryz.zeroValue138 _) HL2.out
 have hg0:=Lib.hid hw
 clear hx2 hx3 hy3 hw3 hw
 go_wp2_with fail
 refine (HR.out _ hg0.out).mono ?_
 rintro e w4 ⟨rfl,hb4⟩
 rw [HZ.out]
 clear hq2
 go_wp2_with fail
 go_ret
 exact ⟨rfl,hg0.out.trans (hb4.mono hg0.out.size)⟩
theorem c_ansTWork (D:KV) (vn vp:Value) (s u v:List UInt8) (q:Bool) (hl:s.length<=100000000) (hvl:v.length<=100000000) (w:World) (hK:Ks w w.heap.size vn vp D) (hok:deskOk D=true) (hV:LV w w.heap.size) (hnw:NotWord s) (ht:Lib.cut s [32]=(u,v,q)) (hd:okN v 6=true) (hu:u=wWork) :
  Calls Tryz.prog 51 #[.agg #[vn,vp],.string (bs s)] w (AnsP (numOr (workV D.now (valN v:Int))) w):=by
 have HT:=Lib.hid ht
 have HR:=Lib.hid (fun (W:World) (hb:Below w.heap.size w W)=>c_readNumber v 6 (by omega) hvl W (hV.at hb))
 have HZ:=Lib.hid (numV_yes hd)
 have HQ:=Lib.hid (fun (W:World) (hb:Below w.heap.size w W)=>c_qWork D vn vp (valN v:Int) W ((hK.below hb).more hb.size) hok (hV.at hb))
 have HU:=Lib.hid hu
 clear hu
 obtain ⟨⟨An,cn,rfl,-,-⟩,Ap,cp,rfl,-,-⟩:=hK
 obtain ⟨w0,hw0,hz0,hb0,-,hS⟩:=one_box w (.slice An D.now.length cn) (.slice Ap D.past.length cp)
 obtain ⟨c0,c1⟩:=hS _ (Below.refl _ w0)
 have hle0:w.heap.size+1<=w0.heap.size:=by omega
 clear hz0
 have HC:=Lib.hid (fun (W:World) (hb:Below w.heap.size w W)=>c_cut32 s hl W (hV.at hb))
 have HLk:=Lib.hid (look_no hnw)
 clear hV hok hnw
 go_enter Tryz.func51,Tryz.ntmps51
 go_wp2_with fail
 refine (c_questions _).mono ?_
 rintro e w1 ⟨rfl,hw1⟩
 have hx1:Below w0.heap.size w0 w1:=by rw [hw1];exact (Below.refl _ w0).alloc (Nat.le_refl _) _
 have hq:(Instr.lookup 136 (.map (some w0.heap.size)) (.string (bs s)) true).run Tryz.prog w1=.ok (.tuple #[.nilFunc,.bool false]) w1:=by
  rw [hw1];exact run_lookF_no mapT1 mapKs (heap_alloc_new _ _) (Tryz.zeroValue134 _) HLk.out
 have hx:=hb0.trans (hx1.mono hb0.size)
 clear hw0 hw1 c0 c1
 go_wp2_with fail
 refine (HC.out _ hx).mono ?_
 rintro e w2 ⟨rfl,hb2⟩
 rw [HT.out]
 have hx2:Below w0.heap.size w0 w2:=hx1.trans (hb2.mono hx1.size)
 have hz2:=hx2.size
 clear hq hb2
 go_wp2_with fail
 refine (c_numberQuestions _).mono ?_
 rintro e w3 ⟨rfl,hw3⟩
 have hx3:Below w2.heap.size w2 w3:=by rw [hw3];exact (Below.refl _ w2).alloc (Nat.le_refl _) _
 have hy3:=hx2.trans (hx3.mono hz2)
 have hw:=hb0.trans (hy3.mono hb0.size)
 have hq2:(Instr.lookup 140 (.map (some w2.heap.size)) (.string (bs u)) true).run Tryz.prog w3=.ok (.tuple #[.func (.func 139) #[] #[],.bool true]) w3:=by
  rw [hw3,HU.out];exact run_lookF_yes mapT2 mapKs (heap_alloc_new _ _) rfl
 have hg0:=Lib.hid hw
 have hgy:=Lib.hid hy3
 clear hx2 hx3 hy3 hw3 hw
 go_wp2_with fail
 refine (HR.out _ hg0.out).mono ?_
 rintro e w4 ⟨rfl,hb4⟩
 rw [HZ.out]
 have hy4:=hgy.out.trans (hb4.mono hgy.out.size)
 obtain ⟨d0,d1⟩:=hS w4 (hy4.mono (by omega))
 have hx4:=hg0.out.trans (hb4.mono hg0.out.size)
 clear hq2 hy4
 go_wp2_with fail
 refine (HQ.out _ hx4).mono ?_
 rintro e w5 ⟨rfl,hb5⟩
 go_wp2_with fail
 go_ret
 exact ⟨rfl,hx4.trans (hb5.mono hx4.size)⟩
theorem c_ansTOrder (D:KV) (vn vp:Value) (s u v:List UInt8) (q:Bool) (hl:s.length<=100000000) (hvl:v.length<=100000000) (w:World) (hK:Ks w w.heap.size vn vp D) (hok:deskOk D=true) (hV:LV w w.heap.size) (hnw:NotWord s) (ht:Lib.cut s [32]=(u,v,q)) (hd:okN v 6=true) (hu:u=wOrder) :
  Calls Tryz.prog 51 #[.agg #[vn,vp],.string (bs s)] w (AnsP (rowText (orderR D.now (valN v:Int))) w):=by
 have HT:=Lib.hid ht
 have HR:=Lib.hid (fun (W:World) (hb:Below w.heap.size w W)=>c_readNumber v 6 (by omega) hvl W (hV.at hb))
 have HZ:=Lib.hid (numV_yes hd)
 have HQ:=Lib.hid (fun (W:World) (hb:Below w.heap.size w W)=>c_qOrder D vn vp (valN v:Int) W ((hK.below hb).more hb.size) hok (hV.at hb))
 have HU:=Lib.hid hu
 clear hu
 obtain ⟨⟨An,cn,rfl,-,-⟩,Ap,cp,rfl,-,-⟩:=hK
 obtain ⟨w0,hw0,hz0,hb0,-,hS⟩:=one_box w (.slice An D.now.length cn) (.slice Ap D.past.length cp)
 obtain ⟨c0,c1⟩:=hS _ (Below.refl _ w0)
 have hle0:w.heap.size+1<=w0.heap.size:=by omega
 clear hz0
 have HC:=Lib.hid (fun (W:World) (hb:Below w.heap.size w W)=>c_cut32 s hl W (hV.at hb))
 have HLk:=Lib.hid (look_no hnw)
 clear hV hok hnw
 go_enter Tryz.func51,Tryz.ntmps51
 go_wp2_with fail
 refine (c_questions _).mono ?_
 rintro e w1 ⟨rfl,hw1⟩
 have hx1:Below w0.heap.size w0 w1:=by rw [hw1];exact (Below.refl _ w0).alloc (Nat.le_refl _) _
 have hq:(Instr.lookup 136 (.map (some w0.heap.size)) (.string (bs s)) true).run Tryz.prog w1=.ok (.tuple #[.nilFunc,.bool false]) w1:=by
  rw [hw1];exact run_lookF_no mapT1 mapKs (heap_alloc_new _ _) (Tryz.zeroValue134 _) HLk.out
 have hx:=hb0.trans (hx1.mono hb0.size)
 clear hw0 hw1 c0 c1
 go_wp2_with fail
 refine (HC.out _ hx).mono ?_
 rintro e w2 ⟨rfl,hb2⟩
 rw [HT.out]
 have hx2:Below w0.heap.size w0 w2:=hx1.trans (hb2.mono hx1.size)
 have hz2:=hx2.size
 clear hq hb2
 go_wp2_with fail
 refine (c_numberQuestions _).mono ?_
 rintro e w3 ⟨rfl,hw3⟩
 have hx3:Below w2.heap.size w2 w3:=by rw [hw3];exact (Below.refl _ w2).alloc (Nat.le_refl _) _
 have hy3:=hx2.trans (hx3.mono hz2)
 have hw:=hb0.trans (hy3.mono hb0.size)
 have hq2:(Instr.lookup 140 (.map (some w2.heap.size)) (.string (bs u)) true).run Tryz.prog w3=.ok (.tuple #[.func (.func 140) #[] #[],.bool true]) w3:=by
  rw [hw3,HU.out];exact run_lookF_yes mapT2 mapKs (heap_alloc_new _ _) rfl
 have hg0:=Lib.hid hw
 have hgy:=Lib.hid hy3
 clear hx2 hx3 hy3 hw3 hw
 go_wp2_with fail
 refine (HR.out _ hg0.out).mono ?_
 rintro e w4 ⟨rfl,hb4⟩
 rw [HZ.out]
 have hy4:=hgy.out.trans (hb4.mono hgy.out.size)
 obtain ⟨d0,d1⟩:=hS w4 (hy4.mono (by omega))
 have hx4:=hg0.out.trans (hb4.mono hg0.out.size)
 clear hq2 hy4
 go_wp2_with fail
 refine (HQ.out _ hx4).mono ?_
 rintro e w5 ⟨rfl,hb5⟩
 go_wp2_with fail
 go_ret
 exact ⟨rfl,hx4.trans (hb5.mono hx4.size)⟩
theorem c_ansTSum (D:KV) (vn vp:Value) (s u v:List UInt8) (q:Bool) (hl:s.length<=100000000) (hvl:v.length<=100000000) (w:World) (hK:Ks w w.heap.size vn vp D) (hok:deskOk D=true) (hV:LV w w.heap.size) (hnw:NotWord s) (ht:Lib.cut s [32]=(u,v,q)) (hd:okN v 6=true) (hu:u=wSum) :
  Calls Tryz.prog 51 #[.agg #[vn,vp],.string (bs s)] w (AnsP (sumQ D.now (valN v:Int)) w):=by
 have HT:=Lib.hid ht
 have HR:=Lib.hid (fun (W:World) (hb:Below w.heap.size w W)=>c_readNumber v 6 (by omega) hvl W (hV.at hb))
 have HZ:=Lib.hid (numV_yes hd)
 have HQ:=Lib.hid (fun (W:World) (hb:Below w.heap.size w W)=>c_qSum D vn vp (valN v:Int) W ((hK.below hb).more hb.size) hok (hV.at hb))
 have HU:=Lib.hid hu
 clear hu
 obtain ⟨⟨An,cn,rfl,-,-⟩,Ap,cp,rfl,-,-⟩:=hK
 obtain ⟨w0,hw0,hz0,hb0,-,hS⟩:=one_box w (.slice An D.now.length cn) (.slice Ap D.past.length cp)
 obtain ⟨c0,c1⟩:=hS _ (Below.refl _ w0)
 have hle0:w.heap.size+1<=w0.heap.size:=by omega
 clear hz0
 have HC:=Lib.hid (fun (W:World) (hb:Below w.heap.size w W)=>c_cut32 s hl W (hV.at hb))
 have HLk:=Lib.hid (look_no hnw)
 clear hV hok hnw
 go_enter Tryz.func51,Tryz.ntmps51
 go_wp2_with fail
 refine (c_questions _).mono ?_
 rintro e w1 ⟨rfl,hw1⟩
 have hx1:Below w0.heap.size w0 w1:=by rw [hw1];exact (Below.refl _ w0).alloc (Nat.le_refl _) _
 have hq:(Instr.lookup 136 (.map (some w0.heap.size)) (.string (bs s)) true).run Tryz.prog w1=.ok (.tuple #[.nilFunc,.bool false]) w1:=by
  rw [hw1];exact run_lookF_no mapT1 mapKs (heap_alloc_new _ _) (Tryz.zeroValue134 _) HLk.out
 have hx:=hb0.trans (hx1.mono hb0.size)
 clear hw0 hw1 c0 c1
 go_wp2_with fail
 refine (HC.out _ hx).mono ?_
 rintro e w2 ⟨rfl,hb2⟩
 rw [HT.out]
 have hx2:Below w0.heap.size w0 w2:=hx1.trans (hb2.mono hx1.size)
 have hz2:=hx2.size
 clear hq hb2
 go_wp2_with fail
 refine (c_numberQuestions _).mono ?_
 rintro e w3 ⟨rfl,hw3⟩
 have hx3:Below w2.heap.size w2 w3:=by rw [hw3];exact (Below.refl _ w2).alloc (Nat.le_refl _) _
 have hy3:=hx2.trans (hx3.mono hz2)
 have hw:=hb0.trans (hy3.mono hb0.size)
 have hq2:(Instr.lookup 140 (.map (some w2.heap.size)) (.string (bs u)) true).run Tryz.prog w3=.ok (.tuple #[.func (.func 141) #[] #[],.bool true]) w3:=by
  rw [hw3,HU.out];exact run_lookF_yes mapT2 mapKs (heap_alloc_new _ _) rfl
 have hg0:=Lib.hid hw
 have hgy:=Lib.hid hy3
 clear hx2 hx3 hy3 hw3 hw
 go_wp2_with fail
 refine (HR.out _ hg0.out).mono ?_
 rintro e w4 ⟨rfl,hb4⟩
 rw [HZ.out]
 have hy4:=hgy.out.trans (hb4.mono hgy.out.size)
 obtain ⟨d0,d1⟩:=hS w4 (hy4.mono (by omega))
 have hx4:=hg0.out.trans (hb4.mono hg0.out.size)
 clear hq2 hy4
 go_wp2_with fail
 refine (HQ.out _ hx4).mono ?_
 rintro e w5 ⟨rfl,hb5⟩
 go_wp2_with fail
 go_ret
 exact ⟨rfl,hx4.trans (hb5.mono hx4.size)⟩
theorem c_ansTBeside (D:KV) (vn vp:Value) (s u v:List UInt8) (q:Bool) (hl:s.length<=100000000) (hvl:v.length<=100000000) (w:World) (hK:Ks w w.heap.size vn vp D) (hok:deskOk D=true) (hV:LV w w.heap.size) (hnw:NotWord s) (ht:Lib.cut s [32]=(u,v,q)) (hd:okN v 6=true) (hu:u=wBeside) :
  Calls Tryz.prog 51 #[.agg #[vn,vp],.string (bs s)] w (AnsP (numOr (waitSumV D.now (valN v:Int))) w):=by
 have HT:=Lib.hid ht
 have HR:=Lib.hid (fun (W:World) (hb:Below w.heap.size w W)=>c_readNumber v 6 (by omega) hvl W (hV.at hb))
 have HZ:=Lib.hid (numV_yes hd)
 have HQ:=Lib.hid (fun (W:World) (hb:Below w.heap.size w W)=>c_qBeside D vn vp (valN v:Int) W ((hK.below hb).more hb.size) hok (hV.at hb))
 have HU:=Lib.hid hu
 clear hu
 obtain ⟨⟨An,cn,rfl,-,-⟩,Ap,cp,rfl,-,-⟩:=hK
 obtain ⟨w0,hw0,hz0,hb0,-,hS⟩:=one_box w (.slice An D.now.length cn) (.slice Ap D.past.length cp)
 obtain ⟨c0,c1⟩:=hS _ (Below.refl _ w0)
 have hle0:w.heap.size+1<=w0.heap.size:=by omega
 clear hz0
 have HC:=Lib.hid (fun (W:World) (hb:Below w.heap.size w W)=>c_cut32 s hl W (hV.at hb))
 have HLk:=Lib.hid (look_no hnw)
 clear hV hok hnw
 go_enter Tryz.func51,Tryz.ntmps51
 go_wp2_with fail
 refine (c_questions _).mono ?_
 rintro e w1 ⟨rfl,hw1⟩
 have hx1:Below w0.heap.size w0 w1:=by rw [hw1];exact (Below.refl _ w0).alloc (Nat.le_refl _) _
 have hq:(Instr.lookup 136 (.map (some w0.heap.size)) (.string (bs s)) true).run Tryz.prog w1=.ok (.tuple #[.nilFunc,.bool false]) w1:=by
  rw [hw1];exact run_lookF_no mapT1 mapKs (heap_alloc_new _ _) (Tryz.zeroValue134 _) HLk.out
 have hx:=hb0.trans (hx1.mono hb0.size)
 clear hw0 hw1 c0 c1
 go_wp2_with fail
 refine (HC.out _ hx).mono ?_
 rintro e w2 ⟨rfl,hb2⟩
 rw [HT.out]
 have hx2:Below w0.heap.size w0 w2:=hx1.trans (hb2.mono hx1.size)
 have hz2:=hx2.size
 clear hq hb2
 go_wp2_with fail
 refine (c_numberQuestions _).mono ?_
 rintro e w3 ⟨rfl,hw3⟩
 have hx3:Below w2.heap.size w2 w3:=by rw [hw3];exact (Below.refl _ w2).alloc (Nat.le_refl _) _
 have hy3:=hx2.trans (hx3.mono hz2)
 have hw:=hb0.trans (hy3.mono hb0.size)
 have hq2:(Instr.lookup 140 (.map (some w2.heap.size)) (.string (bs u)) true).run Tryz.prog w3=.ok (.tuple #[.func (.func 142) #[] #[],.bool true]) w3:=by
  rw [hw3,HU.out];exact run_lookF_yes mapT2 mapKs (heap_alloc_new _ _) rfl
 have hg0:=Lib.hid hw
 have hgy:=Lib.hid hy3
 clear hx2 hx3 hy3 hw3 hw
 go_wp2_with fail
 refine (HR.out _ hg0.out).mono ?_
 rintro e w4 ⟨rfl,hb4⟩
 rw [HZ.out]
 have hy4:=hgy.out.trans (hb4.mono hgy.out.size)
 obtain ⟨d0,d1⟩:=hS w4 (hy4.mono (by omega))
 have hx4:=hg0.out.trans (hb4.mono hg0.out.size)
 clear hq2 hy4
 go_wp2_with fail
 refine (HQ.out _ hx4).mono ?_
 rintro e w5 ⟨rfl,hb5⟩
 go_wp2_with fail
 go_ret
 exact ⟨rfl,hx4.trans (hb5.mono hx4.size)⟩
theorem c_answer (D:KV) (vn vp:Value) (s:List UInt8) (w:World) (hK:Ks w w.heap.size vn vp D) (hok:deskOk D=true) (hl:s.length<=100000000) (hV:LV w w.heap.size) :
  Calls Tryz.prog 51 #[.agg #[vn,vp],.string (bs s)] w (AnsP (askL D.now s) w):=by
 by_cases hWMany:s=wMany
 ·subst hWMany;exact c_ansMany D vn vp w hK hok hV
 by_cases hWWaits:s=wWaits
 ·subst hWWaits;exact c_ansWaits D vn vp w hK hok hV
 by_cases hWLeaves:s=wLeaves
 ·subst hWLeaves;exact c_ansLeaves D vn vp w hK hok hV
 by_cases hWLast:s=wLast
 ·subst hWLast;exact c_ansLast D vn vp w hK hok hV
 by_cases hWRounds:s=wRounds
 ·subst hWRounds;exact c_ansRounds D vn vp w hK hok hV
 by_cases hWBusy:s=wBusy
 ·subst hWBusy;exact c_ansBusy D vn vp w hK hok hV
 by_cases hWNeed:s=wNeed
 ·subst hWNeed;exact c_ansNeed D vn vp w hK hok hV
 by_cases hWLeast:s=wLeast
 ·subst hWLeast;exact c_ansLeast D vn vp w hK hok hV
 by_cases hWIdle:s=wIdle
 ·subst hWIdle;exact c_ansIdle D vn vp w hK hok hV
 have hnw:NotWord s:=⟨hWMany,hWWaits,hWLeaves,hWLast,hWRounds,hWBusy,hWNeed,hWLeast,hWIdle⟩
 rcases split_at 32 s with hno | ⟨u,v,hs,hu⟩
 ·rw [ask_none hnw hno]
  exact c_ansTNo D vn vp s s [] false hl (by simp) w hK hok hV hnw (cutC_none hno) (by decide)
 ·have ht:Lib.cut s [32]=(u,v,true):=by rw [hs];exact cutC_at v hu
  have hvl:v.length<=100000000:=by have:s.length=u.length+1+v.length:=by rw [hs];simp;omega
                                   omega
  rw [ask_two hnw hs hu]
  have e6:okN v 6=digOk v:=by
   cases h:digOk v with
   | false=>simp [okN,h]
   | true=>have:=(digOk_parts h).1;simp [okN,h];omega
  cases hd:digOk v with
  | false =>
   rw [if_neg (by simp)]
   exact c_ansTNo D vn vp s u v true hl hvl w hK hok hV hnw ht (by rw [e6,hd])
  | true =>
   rw [if_pos rfl]
   have hd6:okN v 6=true:=by rw [e6,hd]
   by_cases h1:u=wWork
   ·have K:=c_ansTWork D vn vp s u v true hl hvl w hK hok hV hnw ht hd6 h1
    rwa [<- askW_work,<- h1] at K
   ·by_cases h2:u=wOrder
    ·have K:=c_ansTOrder D vn vp s u v true hl hvl w hK hok hV hnw ht hd6 h2
     rwa [<- askW_order,<- h2] at K
    ·by_cases h3:u=wSum
     ·have K:=c_ansTSum D vn vp s u v true hl hvl w hK hok hV hnw ht hd6 h3
      rwa [<- askW_sum,<- h3] at K
     ·by_cases h4:u=wBeside
      ·have K:=c_ansTBeside D vn vp s u v true hl hvl w hK hok hV hnw ht hd6 h4
       rwa [<- askW_beside,<- h4] at K
      ·rw [askW_no _ _ h1 h2 h3 h4]
       exact c_ansTUn D vn vp s u v true hl hvl w hK hok hV hnw ht hd6 h1 h2 h3 h4
end
end Go.Proofs.YthpccmkagikhjaaGreatDoor

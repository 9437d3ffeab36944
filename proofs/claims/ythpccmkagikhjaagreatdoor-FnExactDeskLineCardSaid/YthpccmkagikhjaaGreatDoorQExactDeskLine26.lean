import Derived.Test.YthpccmkagikhjaaGreatDoorQExactDeskLine17
import Derived.Test.YthpccmkagikhjaaGreatDoorQExactDeskLine18
import Derived.Test.YthpccmkagikhjaaGreatDoorQExactDeskLine23
import Derived.Test.YthpccmkagikhjaaGreatDoorQExactDeskLine25
namespace Go.Proofs.YthpccmkagikhjaaGreatDoor
set_option linter.unusedVariables false
open Go.RowKit
set_option maxRecDepth 8000
set_option maxHeartbeats 8000000
section
attribute [local go_sem ↓] Go.wp_at_zero Go.wp_at_succ
theorem bs_inj {x y:List UInt8} (h:bs x=bs y):x=y:=by rw [<- bs_list x,h,bs_list]
theorem mapT1:Tryz.prog.underlying 136=some (.map 9 134):=by kernel_rfl
theorem mapT2:Tryz.prog.underlying 140=some (.map 9 138):=by kernel_rfl
theorem mapKs:Tryz.prog.underlying 9=some .string:=by kernel_rfl
theorem look_skip {s:ByteArray} {x:ByteArray×Value} {r:List (ByteArray×Value)} (h:¬ s=x.1):lookL s (x::r)=lookL s r:=if_neg h
theorem look_no {s:List UInt8} (h:NotWord s):lookL (bs s) qL=none:=by
 obtain ⟨h1,h2,h3,h4,h5,h6,h7,h8,h9⟩:=h
 unfold qL
 refine (look_skip (fun e=>h1 (bs_inj (show bs s=bs wMany from e)))).trans ?_
 refine (look_skip (fun e=>h2 (bs_inj (show bs s=bs wWaits from e)))).trans ?_
 refine (look_skip (fun e=>h3 (bs_inj (show bs s=bs wLeaves from e)))).trans ?_
 refine (look_skip (fun e=>h4 (bs_inj (show bs s=bs wLast from e)))).trans ?_
 refine (look_skip (fun e=>h5 (bs_inj (show bs s=bs wRounds from e)))).trans ?_
 refine (look_skip (fun e=>h6 (bs_inj (show bs s=bs wBusy from e)))).trans ?_
 refine (look_skip (fun e=>h7 (bs_inj (show bs s=bs wNeed from e)))).trans ?_
 refine (look_skip (fun e=>h8 (bs_inj (show bs s=bs wLeast from e)))).trans ?_
 refine (look_skip (fun e=>h9 (bs_inj (show bs s=bs wIdle from e)))).trans ?_
 rfl
theorem look2_no {s:List UInt8} (h1:s≠wWork) (h2:s≠wOrder) (h3:s≠wSum) (h4:s≠wBeside):lookL (bs s) nqL=none:=by
 unfold nqL
 refine (look_skip (fun e=>h1 (bs_inj (show bs s=bs wWork from e)))).trans ?_
 refine (look_skip (fun e=>h2 (bs_inj (show bs s=bs wOrder from e)))).trans ?_
 refine (look_skip (fun e=>h3 (bs_inj (show bs s=bs wSum from e)))).trans ?_
 refine (look_skip (fun e=>h4 (bs_inj (show bs s=bs wBeside from e)))).trans ?_
 rfl
theorem askW_sum (L:List (Int×Int)) (n:Nat):askW L wSum (n:Int)=sumQ L (n:Int):=by
 rw [askW,if_neg (by decide),if_neg (by decide),if_pos rfl,sumQ]
 by_cases h:(n:Int) < 4
 ·rw [if_pos h,if_pos (by omega)]
 ·rw [if_neg h,if_neg (by omega)]
theorem askW_work (L:List (Int×Int)) (n:Int):askW L wWork n=numOr (workV L n):=by rw [askW,if_pos rfl]
theorem askW_order (L:List (Int×Int)) (n:Int):askW L wOrder n=rowText (orderR L n):=by rw [askW,if_neg (by decide),if_pos rfl]
theorem askW_beside (L:List (Int×Int)) (n:Int):askW L wBeside n=numOr (waitSumV L n):=by rw [askW,if_neg (by decide),if_neg (by decide),if_neg (by decide),if_pos rfl]
theorem askW_no (L:List (Int×Int)) {u:List UInt8} (n:Int) (h1:u≠wWork) (h2:u≠wOrder) (h3:u≠wSum) (h4:u≠wBeside):askW L u n=wWhat:=by rw [askW,if_neg h1,if_neg h2,if_neg h3,if_neg h4]
theorem c_cut32 (t:List UInt8) (ht:t.length<=100000000) (w:World) (hV:LV w w.heap.size) :
  Calls Tryz.prog 43 #[.string (bs t),.string ⟨#[32]⟩] w fun e w'=>e=.returned (.tuple #[.string (bs (Lib.cut t [32]).1),.string (bs (Lib.cut t [32]).2.1),.bool (Lib.cut t [32]).2.2])∧Below w.heap.size w w':=by
 obtain ⟨-,m,hm⟩:=hV.2.2
 refine (Tryz.strings_Cut (bs t) ⟨#[32]⟩ m w (by rw [bs_size];omega) hm).mono ?_
 rintro e w' ⟨he,n,hw⟩
 exact ⟨he,by rw [hw];exact Below.drewN (Below.refl _ w) n⟩
theorem c_ansMany (D:KV) (vn vp:Value) (w:World) (hK:Ks w w.heap.size vn vp D) (hok:deskOk D=true) (hV:LV w w.heap.size) :
  Calls Tryz.prog 51 #[.agg #[vn,vp],.string (bs wMany)] w (AnsP (askL D.now wMany) w):=by
 have HQ:=Lib.hid (fun (W:World) (hb:Below w.heap.size w W)=>c_qMany D vn vp W ((hK.below hb).more hb.size) hok (hV.at hb))
 obtain ⟨⟨An,cn,rfl,-,-⟩,Ap,cp,rfl,-,-⟩:=hK
 obtain ⟨w0,hw0,hz0,hb0,-,hS⟩:=one_box w (.slice An D.now.length cn) (.slice Ap D.past.length cp)
 obtain ⟨c0,c1⟩:=hS _ (Below.refl _ w0)
 have HV:=Lib.hid (ask_Many D.now)
 clear hV hok
 go_enter Tryz.func51,Tryz.ntmps51
 go_wp2_with fail
 refine (c_questions _).mono ?_
 rintro e w1 ⟨rfl,hw1⟩
 have hx1:Below w0.heap.size w0 w1:=by rw [hw1];exact (Below.refl _ w0).alloc (Nat.le_refl _) _
 have hq:(Instr.lookup 136 (.map (some w0.heap.size)) (.string (bs wMany)) true).run Tryz.prog w1=.ok (.tuple #[.func (.func 130) #[] #[],.bool true]) w1:=by
  rw [hw1];exact run_lookF_yes mapT1 mapKs (heap_alloc_new _ _) rfl
 obtain ⟨d0,d1⟩:=hS w1 (hx1.mono (by omega))
 have hx:=hb0.trans (hx1.mono hb0.size)
 clear c0 c1 hw0 hw1 hS hz0
 go_wp2_with fail
 refine (HQ.out _ hx).mono ?_
 rintro e w2 ⟨rfl,hb2⟩
 go_wp2_with fail
 go_ret
 exact ⟨by rw [HV.out];rfl,hx.trans (hb2.mono hx.size)⟩
theorem c_ansWaits (D:KV) (vn vp:Value) (w:World) (hK:Ks w w.heap.size vn vp D) (hok:deskOk D=true) (hV:LV w w.heap.size) :
  Calls Tryz.prog 51 #[.agg #[vn,vp],.string (bs wWaits)] w (AnsP (askL D.now wWaits) w):=by
 have HQ:=Lib.hid (fun (W:World) (hb:Below w.heap.size w W)=>c_qWaits D vn vp W ((hK.below hb).more hb.size) hok (hV.at hb))
 obtain ⟨⟨An,cn,rfl,-,-⟩,Ap,cp,rfl,-,-⟩:=hK
 obtain ⟨w0,hw0,hz0,hb0,-,hS⟩:=one_box w (.slice An D.now.length cn) (.slice Ap D.past.length cp)
 obtain ⟨c0,c1⟩:=hS _ (Below.refl _ w0)
 have HV:=Lib.hid (ask_Waits D.now)
 clear hV hok
 go_enter Tryz.func51,Tryz.ntmps51
 go_wp2_with fail
 refine (c_questions _).mono ?_
 rintro e w1 ⟨rfl,hw1⟩
 have hx1:Below w0.heap.size w0 w1:=by rw [hw1];exact (Below.refl _ w0).alloc (Nat.le_refl _) _
 have hq:(Instr.lookup 136 (.map (some w0.heap.size)) (.string (bs wWaits)) true).run Tryz.prog w1=.ok (.tuple #[.func (.func 131) #[] #[],.bool true]) w1:=by
  rw [hw1];exact run_lookF_yes mapT1 mapKs (heap_alloc_new _ _) rfl
 obtain ⟨d0,d1⟩:=hS w1 (hx1.mono (by omega))
 have hx:=hb0.trans (hx1.mono hb0.size)
 clear c0 c1 hw0 hw1 hS hz0
 go_wp2_with fail
 refine (HQ.out _ hx).mono ?_
 rintro e w2 ⟨rfl,hb2⟩
 go_wp2_with fail
 go_ret
 exact ⟨by rw [HV.out];rfl,hx.trans (hb2.mono hx.size)⟩
theorem c_ansLeaves (D:KV) (vn vp:Value) (w:World) (hK:Ks w w.heap.size vn vp D) (hok:deskOk D=true) (hV:LV w w.heap.size) :
  Calls Tryz.prog 51 #[.agg #[vn,vp],.string (bs wLeaves)] w (AnsP (askL D.now wLeaves) w):=by
 have HQ:=Lib.hid (fun (W:World) (hb:Below w.heap.size w W)=>c_qLeaves D vn vp W ((hK.below hb).more hb.size) hok (hV.at hb))
 obtain ⟨⟨An,cn,rfl,-,-⟩,Ap,cp,rfl,-,-⟩:=hK
 obtain ⟨w0,hw0,hz0,hb0,-,hS⟩:=one_box w (.slice An D.now.length cn) (.slice Ap D.past.length cp)
 obtain ⟨c0,c1⟩:=hS _ (Below.refl _ w0)
 have HV:=Lib.hid (ask_Leaves D.now)
 clear hV hok
 go_enter Tryz.func51,Tryz.ntmps51
 go_wp2_with fail
 refine (c_questions _).mono ?_
 rintro e w1 ⟨rfl,hw1⟩
 have hx1:Below w0.heap.size w0 w1:=by rw [hw1];exact (Below.refl _ w0).alloc (Nat.le_refl _) _
 have hq:(Instr.lookup 136 (.map (some w0.heap.size)) (.string (bs wLeaves)) true).run Tryz.prog w1=.ok (.tuple #[.func (.func 132) #[] #[],.bool true]) w1:=by
  rw [hw1];exact run_lookF_yes mapT1 mapKs (heap_alloc_new _ _) rfl
 obtain ⟨d0,d1⟩:=hS w1 (hx1.mono (by omega))
 have hx:=hb0.trans (hx1.mono hb0.size)
 clear c0 c1 hw0 hw1 hS hz0
 go_wp2_with fail
 refine (HQ.out _ hx).mono ?_
 rintro e w2 ⟨rfl,hb2⟩
 go_wp2_with fail
 go_ret
 exact ⟨by rw [HV.out];rfl,hx.trans (hb2.mono hx.size)⟩
theorem c_ansLast (D:KV) (vn vp:Value) (w:World) (hK:Ks w w.heap.size vn vp D) (hok:deskOk D=true) (hV:LV w w.heap.size) :
  Calls Tryz.prog 51 #[.agg #[vn,vp],.string (bs wLast)] w (AnsP (askL D.now wLast) w):=by
 have HQ:=Lib.hid (fun (W:World) (hb:Below w.heap.size w W)=>c_qLast D vn vp W ((hK.below hb).more hb.size) hok (hV.at hb))
 obtain ⟨⟨An,cn,rfl,-,-⟩,Ap,cp,rfl,-,-⟩:=hK
 obtain ⟨w0,hw0,hz0,hb0,-,hS⟩:=one_box w (.slice An D.now.length cn) (.slice Ap D.past.length cp)
 obtain ⟨c0,c1⟩:=hS _ (Below.refl _ w0)
 have HV:=Lib.hid (ask_Last D.now)
 clear hV hok
 go_enter Tryz.func51,Tryz.ntmps51
 go_wp2_with fail
 refine (c_questions _).mono ?_
 rintro e w1 ⟨rfl,hw1⟩
 have hx1:Below w0.heap.size w0 w1:=by rw [hw1];exact (Below.refl _ w0).alloc (Nat.le_refl _) _
 have hq:(Instr.lookup 136 (.map (some w0.heap.size)) (.string (bs wLast)) true).run Tryz.prog w1=.ok (.tuple #[.func (.func 133) #[] #[],.bool true]) w1:=by
  rw [hw1];exact run_lookF_yes mapT1 mapKs (heap_alloc_new _ _) rfl
 obtain ⟨d0,d1⟩:=hS w1 (hx1.mono (by omega))
 have hx:=hb0.trans (hx1.mono hb0.size)
 clear c0 c1 hw0 hw1 hS hz0
 go_wp2_with fail
 refine (HQ.out _ hx).mono ?_
 rintro e w2 ⟨rfl,hb2⟩
 go_wp2_with fail
 go_ret
 exact ⟨by rw [HV.out];rfl,hx.trans (hb2.mono hx.size)⟩
theorem c_ansRounds (D:KV) (vn vp:Value) (w:World) (hK:Ks w w.heap.size vn vp D) (hok:deskOk D=true) (hV:LV w w.heap.size) :
  Calls Tryz.prog 51 #[.agg #[vn,vp],.string (bs wRounds)] w (AnsP (askL D.now wRounds) w):=by
 have HQ:=Lib.hid (fun (W:World) (hb:Below w.heap.size w W)=>c_qRounds D vn vp W ((hK.below hb).more hb.size) hok (hV.at hb))
 obtain ⟨⟨An,cn,rfl,-,-⟩,Ap,cp,rfl,-,-⟩:=hK
 obtain ⟨w0,hw0,hz0,hb0,-,hS⟩:=one_box w (.slice An D.now.length cn) (.slice Ap D.past.length cp)
 obtain ⟨c0,c1⟩:=hS _ (Below.refl _ w0)
 have HV:=Lib.hid (ask_Rounds D.now)
 clear hV hok
 go_enter Tryz.func51,Tryz.ntmps51
 go_wp2_with fail
 refine (c_questions _).mono ?_
 rintro e w1 ⟨rfl,hw1⟩
 have hx1:Below w0.heap.size w0 w1:=by rw [hw1];exact (Below.refl _ w0).alloc (Nat.le_refl _) _
 have hq:(Instr.lookup 136 (.map (some w0.heap.size)) (.string (bs wRounds)) true).run Tryz.prog w1=.ok (.tuple #[.func (.func 134) #[] #[],.bool true]) w1:=by
  rw [hw1];exact run_lookF_yes mapT1 mapKs (heap_alloc_new _ _) rfl
 obtain ⟨d0,d1⟩:=hS w1 (hx1.mono (by omega))
 have hx:=hb0.trans (hx1.mono hb0.size)
 clear c0 c1 hw0 hw1 hS hz0
 go_wp2_with fail
 refine (HQ.out _ hx).mono ?_
 rintro e w2 ⟨rfl,hb2⟩
 go_wp2_with fail
 go_ret
 exact ⟨by rw [HV.out];rfl,hx.trans (hb2.mono hx.size)⟩
theorem c_ansBusy (D:KV) (vn vp:Value) (w:World) (hK:Ks w w.heap.size vn vp D) (hok:deskOk D=true) (hV:LV w w.heap.size) :
  Calls Tryz.prog 51 #[.agg #[vn,vp],.string (bs wBusy)] w (AnsP (askL D.now wBusy) w):=by
 have HQ:=Lib.hid (fun (W:World) (hb:Below w.heap.size w W)=>c_qBusy D vn vp W ((hK.below hb).more hb.size) hok (hV.at hb))
 obtain ⟨⟨An,cn,rfl,-,-⟩,Ap,cp,rfl,-,-⟩:=hK
 obtain ⟨w0,hw0,hz0,hb0,-,hS⟩:=one_box w (.slice An D.now.length cn) (.slice Ap D.past.length cp)
 obtain ⟨c0,c1⟩:=hS _ (Below.refl _ w0)
 have HV:=Lib.hid (ask_Busy D.now)
 clear hV hok
 go_enter Tryz.func51,Tryz.ntmps51
 go_wp2_with fail
 refine (c_questions _).mono ?_
 rintro e w1 ⟨rfl,hw1⟩
 have hx1:Below w0.heap.size w0 w1:=by rw [hw1];exact (Below.refl _ w0).alloc (Nat.le_refl _) _
 have hq:(Instr.lookup 136 (.map (some w0.heap.size)) (.string (bs wBusy)) true).run Tryz.prog w1=.ok (.tuple #[.func (.func 135) #[] #[],.bool true]) w1:=by
  rw [hw1];exact run_lookF_yes mapT1 mapKs (heap_alloc_new _ _) rfl
 obtain ⟨d0,d1⟩:=hS w1 (hx1.mono (by omega))
 have hx:=hb0.trans (hx1.mono hb0.size)
 clear c0 c1 hw0 hw1 hS hz0
 go_wp2_with fail
 refine (HQ.out _ hx).mono ?_
 rintro e w2 ⟨rfl,hb2⟩
 go_wp2_with fail
 go_ret
 exact ⟨by rw [HV.out];rfl,hx.trans (hb2.mono hx.size)⟩
theorem c_ansNeed (D:KV) (vn vp:Value) (w:World) (hK:Ks w w.heap.size vn vp D) (hok:deskOk D=true) (hV:LV w w.heap.size) :
  Calls Tryz.prog 51 #[.agg #[vn,vp],.string (bs wNeed)] w (AnsP (askL D.now wNeed) w):=by
 have HQ:=Lib.hid (fun (W:World) (hb:Below w.heap.size w W)=>c_qNeed D vn vp W ((hK.below hb).more hb.size) hok (hV.at hb))
 obtain ⟨⟨An,cn,rfl,-,-⟩,Ap,cp,rfl,-,-⟩:=hK
 obtain ⟨w0,hw0,hz0,hb0,-,hS⟩:=one_box w (.slice An D.now.length cn) (.slice Ap D.past.length cp)
 obtain ⟨c0,c1⟩:=hS _ (Below.refl _ w0)
 have HV:=Lib.hid (ask_Need D.now)
 clear hV hok
 go_enter Tryz.func51,Tryz.ntmps51
 go_wp2_with fail
 refine (c_questions _).mono ?_
 rintro e w1 ⟨rfl,hw1⟩
 have hx1:Below w0.heap.size w0 w1:=by rw [hw1];exact (Below.refl _ w0).alloc (Nat.le_refl _) _
 have hq:(Instr.lookup 136 (.map (some w0.heap.size)) (.string (bs wNeed)) true).run Tryz.prog w1=.ok (.tuple #[.func (.func 136) #[] #[],.bool true]) w1:=by
  rw [hw1];exact run_lookF_yes mapT1 mapKs (heap_alloc_new _ _) rfl
 obtain ⟨d0,d1⟩:=hS w1 (hx1.mono (by omega))
 have hx:=hb0.trans (hx1.mono hb0.size)
 clear c0 c1 hw0 hw1 hS hz0
 go_wp2_with fail
 refine (HQ.out _ hx).mono ?_
 rintro e w2 ⟨rfl,hb2⟩
 go_wp2_with fail
 go_ret
 exact ⟨by rw [HV.out];rfl,hx.trans (hb2.mono hx.size)⟩
theorem c_ansLeast (D:KV) (vn vp:Value) (w:World) (hK:Ks w w.heap.size vn vp D) (hok:deskOk D=true) (hV:LV w w.heap.size) :
  Calls Tryz.prog 51 #[.agg #[vn,vp],.string (bs wLeast)] w (AnsP (askL D.now wLeast) w):=by
 have HQ:=Lib.hid (fun (W:World) (hb:Below w.heap.size w W)=>c_qLeast D vn vp W ((hK.below hb).more hb.size) hok (hV.at hb))
 obtain ⟨⟨An,cn,rfl,-,-⟩,Ap,cp,rfl,-,-⟩:=hK
 obtain ⟨w0,hw0,hz0,hb0,-,hS⟩:=one_box w (.slice An D.now.length cn) (.slice Ap D.past.length cp)
 obtain ⟨c0,c1⟩:=hS _ (Below.refl _ w0)
 have HV:=Lib.hid (ask_Least D.now)
 clear hV hok
 go_enter Tryz.func51,Tryz.ntmps51
 go_wp2_with fail
 refine (c_questions _).mono ?_
 rintro e w1 ⟨rfl,hw1⟩
 have hx1:Below w0.heap.size w0 w1:=by rw [hw1];exact (Below.refl _ w0).alloc (Nat.le_refl _) _
 have hq:(Instr.lookup 136 (.map (some w0.heap.size)) (.string (bs wLeast)) true).run Tryz.prog w1=.ok (.tuple #[.func (.func 137) #[] #[],.bool true]) w1:=by
  rw [hw1];exact run_lookF_yes mapT1 mapKs (heap_alloc_new _ _) rfl
 obtain ⟨d0,d1⟩:=hS w1 (hx1.mono (by omega))
 have hx:=hb0.trans (hx1.mono hb0.size)
 clear c0 c1 hw0 hw1 hS hz0
 go_wp2_with fail
 refine (HQ.out _ hx).mono ?_
 rintro e w2 ⟨rfl,hb2⟩
 go_wp2_with fail
 go_ret
 exact ⟨by rw [HV.out];rfl,hx.trans (hb2.mono hx.size)⟩
theorem c_ansIdle (D:KV) (vn vp:Value) (w:World) (hK:Ks w w.heap.size vn vp D) (hok:deskOk D=true) (hV:LV w w.heap.size) :
  Calls Tryz.prog 51 #[.agg #[vn,vp],.string (bs wIdle)] w (AnsP (askL D.now wIdle) w):=by
 have HQ:=Lib.hid (fun (W:World) (hb:Below w.heap.size w W)=>c_qIdle D vn vp W ((hK.below hb).more hb.size) hok (hV.at hb))
 obtain ⟨⟨An,cn,rfl,-,-⟩,Ap,cp,rfl,-,-⟩:=hK
 obtain ⟨w0,hw0,hz0,hb0,-,hS⟩:=one_box w (.slice An D.now.length cn) (.slice Ap D.past.length cp)
 obtain ⟨c0,c1⟩:=hS _ (Below.refl _ w0)
 have HV:=Lib.hid (ask_Idle D.now)
 clear hV hok
 go_enter Tryz.func51,Tryz.ntmps51
 go_wp2_with fail
 refine (c_questions _).mono ?_
 rintro e w1 ⟨rfl,hw1⟩
 have hx1:Below w0.heap.size w0 w1:=by rw [hw1];exact (Below.refl _ w0).alloc (Nat.le_refl _) _
 have hq:(Instr.lookup 136 (.map (some w0.heap.size)) (.string (bs wIdle)) true).run Tryz.prog w1=.ok (.tuple #[.func (.func 138) #[] #[],.bool true]) w1:=by
  rw [hw1];exact run_lookF_yes mapT1 mapKs (heap_alloc_new _ _) rfl
 obtain ⟨d0,d1⟩:=hS w1 (hx1.mono (by omega))
 have hx:=hb0.trans (hx1.mono hb0.size)
 clear c0 c1 hw0 hw1 hS hz0
 go_wp2_with fail
 refine (HQ.out _ hx).mono ?_
 rintro e w2 ⟨rfl,hb2⟩
 go_wp2_with fail
 go_ret
 exact ⟨by rw [HV.out];rfl,hx.trans (hb2.mono hx.size)⟩
theorem c_ansTNo (D:KV) (vn vp:Value) (s u v:List UInt8) (q:Bool) (hl:s.length<=100000000) (hvl:v.length<=100000000) (w:World) (hK:Ks w w.heap.size vn vp D) (hok:deskOk D=true) (hV:LV w w.heap.size) (hnw:NotWord s) (ht:Lib.cut s [32]=(u,v,q)) (hd:okN v 6=false) :
  Calls Tryz.prog 51 #[.agg #[vn,vp],.string (bs s)] w (AnsP (wWhat) w):=by
 have HT:=Lib.hid ht
 have HR:=Lib.hid (fun (W:World) (hb:Below w.heap.size w W)=>c_readNumber v 6 (by omega) hvl W (hV.at hb))
 have HZ:=Lib.hid (numV_no hd)
 obtain ⟨⟨An,cn,rfl,-,-⟩,Ap,cp,rfl,-,-⟩:=hK
 obtain ⟨w0,hw0,hz0,hb0,-,hS⟩:=one_box w (.slice An D.now.length cn) (.slice Ap D.past.length cp)
 obtain ⟨c0,c1⟩:=hS _ (Below.refl _ w0)
 have hle0:w.heap.size+1<=w0.heap.size:=by omega
 clear hz0
 have HC:=Lib.hid (fun (W:World) (hb:Below w.heap.size w W)=>c_cut32 s hl W (hV.at hb))
 have HLk:=Lib.hid (look_no hnw)
 clear hV hok hnw
 go_enter Tryz.func51,Tryz.ntmps51
 go_wp2_with fail
 refine (c_questions _).mono ?_
 rintro e w1 ⟨rfl,hw1⟩
 have hx1:Below w0.heap.size w0 w1:=by rw [hw1];exact (Below.refl _ w0).alloc (Nat.le_refl _) _
 have hq:(Instr.lookup 136 (.map (some w0.heap.size)) (.string (bs s)) true).run Tryz.prog w1=.ok (.tuple #[.nilFunc,.bool false]) w1:=by
  rw [hw1];exact run_lookF_no mapT1 mapKs (heap_alloc_new _ _) (Tryz.zeroValue134 _) HLk.out
 have hx:=hb0.trans (hx1.mono hb0.size)
 clear hw0 hw1 c0 c1
 go_wp2_with fail
 refine (HC.out _ hx).mono ?_
 rintro e w2 ⟨rfl,hb2⟩
 rw [HT.out]
 have hx2:Below w0.heap.size w0 w2:=hx1.trans (hb2.mono hx1.size)
 have hz2:=hx2.size
 clear hq hb2
 go_wp2_with fail
 refine (c_numberQuestions _).mono ?_
 rintro e w3 ⟨rfl,hw3⟩
 have hx3:Below w2.heap.size w2 w3:=by rw [hw3];exact (Below.refl _ w2).alloc (Nat.le_refl _) _
 have hy3:=hx2.trans (hx3.mono hz2)
 have hw:=hb0.trans (hy3.mono hb0.size)
 obtain ⟨f,k,hq2⟩:∃ f k,(Instr.lookup 140 (.map (some w2.heap.size)) (.string (bs u)) true).run Tryz.prog w3=.ok (.tuple #[f,.bool k]) w3:=by
  rw [hw3]
  cases h:lookL (bs u) nqL with
  | none=>exact ⟨_,_,run_lookF_no mapT2 mapKs (heap_alloc_new _ _) (Tryz.zeroValue138 _) h⟩
  | some f=>exact ⟨f,_,run_lookF_yes mapT2 mapKs (heap_alloc_new _ _) h⟩
 cases k with
 | true =>
  have hg0:=Lib.hid hw
  clear hx2 hx3 hy3 hw3 hw
  go_wp2_with fail
  refine (HR.out _ hg0.out).mono ?_
  rintro e w4 ⟨rfl,hb4⟩
  rw [HZ.out]
  clear hq2
  go_wp2_with fail
  go_ret
  exact ⟨rfl,hg0.out.trans (hb4.mono hg0.out.size)⟩
 | false =>
  have hg0:=Lib.hid hw
  clear hx2 hx3 hy3 hw3 hw
  go_wp2_with fail
  refine (HR.out _ hg0.out).mono ?_
  rintro e w4 ⟨rfl,hb4⟩
  rw [HZ.out]
  clear hq2
  go_wp2_with fail
  go_ret
  exact ⟨rfl,hg0.out.trans (hb4.mono hg0.out.size)⟩
theorem c_ansTUn (D:KV) (vn vp:Value) (s u v:List UInt8) (q:Bool) (hl:s.length<=100000000) (hvl:v.length<=100000000) (w:World) (hK:Ks w w.heap.size vn vp D) (hok:deskOk D=true) (hV:LV w w.heap.size) (hnw:NotWord s) (ht:Lib.cut s [32]=(u,v,q)) (hd:okN v 6=true) (h1:u≠wWork) (h2:u≠wOrder) (h3:u≠wSum) (h4:u≠wBeside) :
  Calls Tryz.prog 51 #[.agg #[vn,vp],.string (bs s)] w (AnsP (wWhat) w):=by
 have HT:=Lib.hid ht
 have HR:=Lib.hid (fun (W:World) (hb:Below w.heap.size w W)=>c_readNumber v 6 (by omega) hvl W (hV.at hb))
 have HZ:=Lib.hid (numV_yes hd)
 have HL2:=Lib.hid (look2_no h1 h2 h3 h4)
 obtain ⟨⟨An,cn,rfl,-,-⟩,Ap,cp,rfl,-,-⟩:=hK
 obtain ⟨w0,hw0,hz0,hb0,-,hS⟩:=one_box w (.slice An D.now.length cn) (.slice Ap D.past.length cp)
 obtain ⟨c0,c1⟩:=hS _ (Below.refl _ w0)
 have hle0:w.heap.size+1<=w0.heap.size:=by omega
 clear hz0
 have HC:=Lib.hid (fun (W:World) (hb:Below w.heap.size w W)=>c_cut32 s hl W (hV.at hb))
 have HLk:=Lib.hid (look_no hnw)
 clear hV hok hnw
 go_enter Tryz.func51,Tryz.ntmps51
 go_wp2_with fail
 refine (c_questions _).mono ?_
 rintro e w1 ⟨rfl,hw1⟩
 have hx1:Below w0.heap.size w0 w1:=by rw [hw1];exact (Below.refl _ w0).alloc (Nat.le_refl _) _
 have hq:(Instr.lookup 136 (.map (some w0.heap.size)) (.string (bs s)) true).run Tryz.prog w1=.ok (.tuple #[.nilFunc,.bool false]) w1:=by
  rw [hw1];exact run_lookF_no mapT1 mapKs (heap_alloc_new _ _) (Tryz.zeroValue134 _) HLk.out
 have hx:=hb0.trans (hx1.mono hb0.size)
 clear hw0 hw1 c0 c1
 go_wp2_with fail
 refine (HC.out _ hx).mono ?_
 rintro e w2 ⟨rfl,hb2⟩
 rw [HT.out]
 have hx2:Below w0.heap.size w0 w2:=hx1.trans (hb2.mono hx1.size)
 have hz2:=hx2.size
 clear hq hb2
 go_wp2_with fail
 refine (c_numberQuestions _).mono ?_
 rintro e w3 ⟨rfl,hw3⟩
 have hx3:Below w2.heap.size w2 w3:=by rw [hw3];exact (Below.refl _ w2).alloc (Nat.le_refl _) _
 have hy3:=hx2.trans (hx3.mono hz2)
 have hw:=hb0.trans (hy3.mono hb0.size)
 have hq2:(Instr.lookup 140 (.map (some w2.heap.size)) (.string (bs u)) true).run Tryz.prog w3=.ok (.tuple #[.nilFunc,.bool false]) w3:=by
  rw [hw3];exact run_lookF_no mapT2 mapKs (heap_alloc_new _ _) (Tryz.zeroValue138 _) HL2.out
 have hg0:=Lib.hid hw
 clear hx2 hx3 hy3 hw3 hw
 go_wp2_with fail
 refine (HR.out _ hg0.out).mono ?_
 rintro e w4 ⟨rfl,hb4⟩
 rw [HZ.out]
 clear hq2
 go_wp2_with fail
 go_ret
 exact ⟨rfl,hg0.out.trans (hb4.mono hg0.out.size)⟩
theorem c_ansTWork (D:KV) (vn vp:Value) (s u v:List UInt8) (q:Bool) (hl:s.length<=100000000) (hvl:v.length<=100000000) (w:World) (hK:Ks w w.heap.size vn vp D) (hok:deskOk D=true) (hV:LV w w.heap.size) (hnw:NotWord s) (ht:Lib.cut s [32]=(u,v,q)) (hd:okN v 6=true) (hu:u=wWork) :
  Calls Tryz.prog 51 #[.agg #[vn,vp],.string (bs s)] w (AnsP (numOr (workV D.now (valN v:Int))) w):=by
 have HT:=Lib.hid ht
 have HR:=Lib.hid (fun (W:World) (hb:Below w.heap.size w W)=>c_readNumber v 6 (by omega) hvl W (hV.at hb))
 have HZ:=Lib.hid (numV_yes hd)
 have HQ:=Lib.hid (fun (W:World) (hb:Below w.heap.size w W)=>c_qWork D vn vp (valN v:Int) W ((hK.below hb).more hb.size) hok (hV.at hb))
 have HU:=Lib.hid hu
 clear hu
 obtain ⟨⟨An,cn,rfl,-,-⟩,Ap,cp,rfl,-,-⟩:=hK
 obtain ⟨w0,hw0,hz0,hb0,-,hS⟩:=one_box w (.slice An D.now.length cn) (.slice Ap D.past.length cp)
 obtain ⟨c0,c1⟩:=hS _ (Below.refl _ w0)
 have hle0:w.heap.size+1<=w0.heap.size:=by omega
 clear hz0
 have HC:=Lib.hid (fun (W:World) (hb:Below w.heap.size w W)=>c_cut32 s hl W (hV.at hb))
 have HLk:=Lib.hid (look_no hnw)
 clear hV hok hnw
 go_enter Tryz.func51,Tryz.ntmps51
 go_wp2_with fail
 refine (c_questions _).mono ?_
 rintro e w1 ⟨rfl,hw1⟩
 have hx1:Below w0.heap.size w0 w1:=by rw [hw1];exact (Below.refl _ w0).alloc (Nat.le_refl _) _
 have hq:(Instr.lookup 136 (.map (some w0.heap.size)) (.string (bs s)) true).run Tryz.prog w1=.ok (.tuple #[.nilFunc,.bool false]) w1:=by
  rw [hw1];exact run_lookF_no mapT1 mapKs (heap_alloc_new _ _) (Tryz.zeroValue134 _) HLk.out
 have hx:=hb0.trans (hx1.mono hb0.size)
 clear hw0 hw1 c0 c1
 go_wp2_with fail
 refine (HC.out _ hx).mono ?_
 rintro e w2 ⟨rfl,hb2⟩
 rw [HT.out]
 have hx2:Below w0.heap.size w0 w2:=hx1.trans (hb2.mono hx1.size)
 have hz2:=hx2.size
 clear hq hb2
 go_wp2_with fail
 refine (c_numberQuestions _).mono ?_
 rintro e w3 ⟨rfl,hw3⟩
 have hx3:Below w2.heap.size w2 w3:=by rw [hw3];exact (Below.refl _ w2).alloc (Nat.le_refl _) _
 have hy3:=hx2.trans (hx3.mono hz2)
 have hw:=hb0.trans (hy3.mono hb0.size)
 have hq2:(Instr.lookup 140 (.map (some w2.heap.size)) (.string (bs u)) true).run Tryz.prog w3=.ok (.tuple #[.func (.func 139) #[] #[],.bool true]) w3:=by
  rw [hw3,HU.out];exact run_lookF_yes mapT2 mapKs (heap_alloc_new _ _) rfl
 have hg0:=Lib.hid hw
 have hgy:=Lib.hid hy3
 clear hx2 hx3 hy3 hw3 hw
 go_wp2_with fail
 refine (HR.out _ hg0.out).mono ?_
 rintro e w4 ⟨rfl,hb4⟩
 rw [HZ.out]
 have hy4:=hgy.out.trans (hb4.mono hgy.out.size)
 obtain ⟨d0,d1⟩:=hS w4 (hy4.mono (by omega))
 have hx4:=hg0.out.trans (hb4.mono hg0.out.size)
 clear hq2 hy4
 go_wp2_with fail
 refine (HQ.out _ hx4).mono ?_
 rintro e w5 ⟨rfl,hb5⟩
 go_wp2_with fail
 go_ret
 exact ⟨rfl,hx4.trans (hb5.mono hx4.size)⟩
theorem c_ansTOrder (D:KV) (vn vp:Value) (s u v:List UInt8) (q:Bool) (hl:s.length<=100000000) (hvl:v.length<=100000000) (w:World) (hK:Ks w w.heap.size vn vp D) (hok:deskOk D=true) (hV:LV w w.heap.size) (hnw:NotWord s) (ht:Lib.cut s [32]=(u,v,q)) (hd:okN v 6=true) (hu:u=wOrder) :
  Calls Tryz.prog 51 #[.agg #[vn,vp],.string (bs s)] w (AnsP (rowText (orderR D.now (valN v:Int))) w):=by
 have HT:=Lib.hid ht
 have HR:=Lib.hid (fun (W:World) (hb:Below w.heap.size w W)=>c_readNumber v 6 (by omega) hvl W (hV.at hb))
 have HZ:=Lib.hid (numV_yes hd)
 have HQ:=Lib.hid (fun (W:World) (hb:Below w.heap.size w W)=>c_qOrder D vn vp (valN v:Int) W ((hK.below hb).more hb.size) hok (hV.at hb))
 have HU:=Lib.hid hu
 clear hu
 obtain ⟨⟨An,cn,rfl,-,-⟩,Ap,cp,rfl,-,-⟩:=hK
 obtain ⟨w0,hw0,hz0,hb0,-,hS⟩:=one_box w (.slice An D.now.length cn) (.slice Ap D.past.length cp)
 obtain ⟨c0,c1⟩:=hS _ (Below.refl _ w0)
 have hle0:w.heap.size+1<=w0.heap.size:=by omega
 clear hz0
 have HC:=Lib.hid (fun (W:World) (hb:Below w.heap.size w W)=>c_cut32 s hl W (hV.at hb))
 have HLk:=Lib.hid (look_no hnw)
 clear hV hok hnw
 go_enter Tryz.func51,Tryz.ntmps51
 go_wp2_with fail
 refine (c_questions _).mono ?_
 rintro e w1 ⟨rfl,hw1⟩
 have hx1:Below w0.heap.size w0 w1:=by rw [hw1];exact (Below.refl _ w0).alloc (Nat.le_refl _) _
 have hq:(Instr.lookup 136 (.map (some w0.heap.size)) (.string (bs s)) true).run Tryz.prog w1=.ok (.tuple #[.nilFunc,.bool false]) w1:=by
  rw [hw1];exact run_lookF_no mapT1 mapKs (heap_alloc_new _ _) (Tryz.zeroValue134 _) HLk.out
 have hx:=hb0.trans (hx1.mono hb0.size)
 clear hw0 hw1 c0 c1
 go_wp2_with fail
 refine (HC.out _ hx).mono ?_
 rintro e w2 ⟨rfl,hb2⟩
 rw [HT.out]
 have hx2:Below w0.heap.size w0 w2:=hx1.trans (hb2.mono hx1.size)
 have hz2:=hx2.size
 clear hq hb2
 go_wp2_with fail
 refine (c_numberQuestions _).mono ?_
 rintro e w3 ⟨rfl,hw3⟩
 have hx3:Below w2.heap.size w2 w3:=by rw [hw3];exact (Below.refl _ w2).alloc (Nat.le_refl _) _
 have hy3:=hx2.trans (hx3.mono hz2)
 have hw:=hb0.trans (hy3.mono hb0.size)
 have hq2:(Instr.lookup 140 (.map (some w2.heap.size)) (.string (bs u)) true).run Tryz.prog w3=.ok (.tuple #[.func (.func 140) #[] #[],.bool true]) w3:=by
  rw [hw3,HU.out];exact run_lookF_yes mapT2 mapKs (heap_alloc_new _ _) rfl
 have hg0:=Lib.hid hw
 have hgy:=Lib.hid hy3
 clear hx2 hx3 hy3 hw3 hw
 go_wp2_with fail
 refine (HR.out _ hg0.out).mono ?_
 rintro e w4 ⟨rfl,hb4⟩
 rw [HZ.out]
 have hy4:=hgy.out.trans (hb4.mono hgy.out.size)
 obtain ⟨d0,d1⟩:=hS w4 (hy4.mono (by omega))
 have hx4:=hg0.out.trans (hb4.mono hg0.out.size)
 clear hq2 hy4
 go_wp2_with fail
 refine (HQ.out _ hx4).mono ?_
 rintro e w5 ⟨rfl,hb5⟩
 go_wp2_with fail
 go_ret
 exact ⟨rfl,hx4.trans (hb5.mono hx4.size)⟩
theorem c_ansTSum (D:KV) (vn vp:Value) (s u v:List UInt8) (q:Bool) (hl:s.length<=100000000) (hvl:v.length<=100000000) (w:World) (hK:Ks w w.heap.size vn vp D) (hok:deskOk D=true) (hV:LV w w.heap.size) (hnw:NotWord s) (ht:Lib.cut s [32]=(u,v,q)) (hd:okN v 6=true) (hu:u=wSum) :
  Calls Tryz.prog 51 #[.agg #[vn,vp],.string (bs s)] w (AnsP (sumQ D.now (valN v:Int)) w):=by
 have HT:=Lib.hid ht
 have HR:=Lib.hid (fun (W:World) (hb:Below w.heap.size w W)=>c_readNumber v 6 (by omega) hvl W (hV.at hb))
 have HZ:=Lib.hid (numV_yes hd)
 have HQ:=Lib.hid (fun (W:World) (hb:Below w.heap.size w W)=>c_qSum D vn vp (valN v:Int) W ((hK.below hb).more hb.size) hok (hV.at hb))
 have HU:=Lib.hid hu
 clear hu
 obtain ⟨⟨An,cn,rfl,-,-⟩,Ap,cp,rfl,-,-⟩:=hK
 obtain ⟨w0,hw0,hz0,hb0,-,hS⟩:=one_box w (.slice An D.now.length cn) (.slice Ap D.past.length cp)
 obtain ⟨c0,c1⟩:=hS _ (Below.refl _ w0)
 have hle0:w.heap.size+1<=w0.heap.size:=by omega
 clear hz0
 have HC:=Lib.hid (fun (W:World) (hb:Below w.heap.size w W)=>c_cut32 s hl W (hV.at hb))
 have HLk:=Lib.hid (look_no hnw)
 clear hV hok hnw
 go_enter Tryz.func51,Tryz.ntmps51
 go_wp2_with fail
 refine (c_questions _).mono ?_
 rintro e w1 ⟨rfl,hw1⟩
 have hx1:Below w0.heap.size w0 w1:=by rw [hw1];exact (Below.refl _ w0).alloc (Nat.le_refl _) _
 have hq:(Instr.lookup 136 (.map (some w0.heap.size)) (.string (bs s)) true).run Tryz.prog w1=.ok (.tuple #[.nilFunc,.bool false]) w1:=by
  rw [hw1];exact run_lookF_no mapT1 mapKs (heap_alloc_new _ _) (Tryz.zeroValue134 _) HLk.out
 have hx:=hb0.trans (hx1.mono hb0.size)
 clear hw0 hw1 c0 c1
 go_wp2_with fail
 refine (HC.out _ hx).mono ?_
 rintro e w2 ⟨rfl,hb2⟩
 rw [HT.out]
 have hx2:Below w0.heap.size w0 w2:=hx1.trans (hb2.mono hx1.size)
 have hz2:=hx2.size
 clear hq hb2
 go_wp2_with fail
 refine (c_numberQuestions _).mono ?_
 rintro e w3 ⟨rfl,hw3⟩
 have hx3:Below w2.heap.size w2 w3:=by rw [hw3];exact (Below.refl _ w2).alloc (Nat.le_refl _) _
 have hy3:=hx2.trans (hx3.mono hz2)
 have hw:=hb0.trans (hy3.mono hb0.size)
 have hq2:(Instr.lookup 140 (.map (some w2.heap.size)) (.string (bs u)) true).run Tryz.prog w3=.ok (.tuple #[.func (.func 141) #[] #[],.bool true]) w3:=by
  rw [hw3,HU.out];exact run_lookF_yes mapT2 mapKs (heap_alloc_new _ _) rfl
 have hg0:=Lib.hid hw
 have hgy:=Lib.hid hy3
 clear hx2 hx3 hy3 hw3 hw
 go_wp2_with fail
 refine (HR.out _ hg0.out).mono ?_
 rintro e w4 ⟨rfl,hb4⟩
 rw [HZ.out]
 have hy4:=hgy.out.trans (hb4.mono hgy.out.size)
 obtain ⟨d0,d1⟩:=hS w4 (hy4.mono (by omega))
 have hx4:=hg0.out.trans (hb4.mono hg0.out.size)
 clear hq2 hy4
 go_wp2_with fail
 refine (HQ.out _ hx4).mono ?_
 rintro e w5 ⟨rfl,hb5⟩
 go_wp2_with fail
 go_ret
 exact ⟨rfl,hx4.trans (hb5.mono hx4.size)⟩
theorem c_ansTBeside (D:KV) (vn vp:Value) (s u v:List UInt8) (q:Bool) (hl:s.length<=100000000) (hvl:v.length<=100000000) (w:World) (hK:Ks w w.heap.size vn vp D) (hok:deskOk D=true) (hV:LV w w.heap.size) (hnw:NotWord s) (ht:Lib.cut s [32]=(u,v,q)) (hd:okN v 6=true) (hu:u=wBeside) :
  Calls Tryz.prog 51 #[.agg #[vn,vp],.string (bs s)] w (AnsP (numOr (waitSumV D.now (valN v:Int))) w):=by
 have HT:=Lib.hid ht
 have HR:=Lib.hid (fun (W:World) (hb:Below w.heap.size w W)=>c_readNumber v 6 (by omega) hvl W (hV.at hb))
 have HZ:=Lib.hid (numV_yes hd)
 have HQ:=Lib.hid (fun (W:World) (hb:Below w.heap.size w W)=>c_qBeside D vn vp (valN v:Int) W ((hK.below hb).more hb.size) hok (hV.at hb))
 have HU:=Lib.hid hu
 clear hu
 obtain ⟨⟨An,cn,rfl,-,-⟩,Ap,cp,rfl,-,-⟩:=hK
 obtain ⟨w0,hw0,hz0,hb0,-,hS⟩:=one_box w (.slice An D.now.length cn) (.slice Ap D.past.length cp)
 obtain ⟨c0,c1⟩:=hS _ (Below.refl _ w0)
 have hle0:w.heap.size+1<=w0.heap.size:=by omega
 clear hz0
 have HC:=Lib.hid (fun (W:World) (hb:Below w.heap.size w W)=>c_cut32 s hl W (hV.at hb))
 have HLk:=Lib.hid (look_no hnw)
 clear hV hok hnw
 go_enter Tryz.func51,Tryz.ntmps51
 go_wp2_with fail
 refine (c_questions _).mono ?_
 rintro e w1 ⟨rfl,hw1⟩
 have hx1:Below w0.heap.size w0 w1:=by rw [hw1];exact (Below.refl _ w0).alloc (Nat.le_refl _) _
 have hq:(Instr.lookup 136 (.map (some w0.heap.size)) (.string (bs s)) true).run Tryz.prog w1=.ok (.tuple #[.nilFunc,.bool false]) w1:=by
  rw [hw1];exact run_lookF_no mapT1 mapKs (heap_alloc_new _ _) (Tryz.zeroValue134 _) HLk.out
 have hx:=hb0.trans (hx1.mono hb0.size)
 clear hw0 hw1 c0 c1
 go_wp2_with fail
 refine (HC.out _ hx).mono ?_
 rintro e w2 ⟨rfl,hb2⟩
 rw [HT.out]
 have hx2:Below w0.heap.size w0 w2:=hx1.trans (hb2.mono hx1.size)
 have hz2:=hx2.size
 clear hq hb2
 go_wp2_with fail
 refine (c_numberQuestions _).mono ?_
 rintro e w3 ⟨rfl,hw3⟩
 have hx3:Below w2.heap.size w2 w3:=by rw [hw3];exact (Below.refl _ w2).alloc (Nat.le_refl _) _
 have hy3:=hx2.trans (hx3.mono hz2)
 have hw:=hb0.trans (hy3.mono hb0.size)
 have hq2:(Instr.lookup 140 (.map (some w2.heap.size)) (.string (bs u)) true).run Tryz.prog w3=.ok (.tuple #[.func (.func 142) #[] #[],.bool true]) w3:=by
  rw [hw3,HU.out];exact run_lookF_yes mapT2 mapKs (heap_alloc_new _ _) rfl
 have hg0:=Lib.hid hw
 have hgy:=Lib.hid hy3
 clear hx2 hx3 hy3 hw3 hw
 go_wp2_with fail
 refine (HR.out _ hg0.out).mono ?_
 rintro e w4 ⟨rfl,hb4⟩
 rw [HZ.out]
 have hy4:=hgy.out.trans (hb4.mono hgy.out.size)
 obtain ⟨d0,d1⟩:=hS w4 (hy4.mono (by omega))
 have hx4:=hg0.out.trans (hb4.mono hg0.out.size)
 clear hq2 hy4
 go_wp2_with fail
 refine (HQ.out _ hx4).mono ?_
 rintro e w5 ⟨rfl,hb5⟩
 go_wp2_with fail
 go_ret
 exact ⟨rfl,hx4.trans (hb5.mono hx4.size)⟩
theorem c_answer (D:KV) (vn vp:Value) (s:List UInt8) (w:World) (hK:Ks w w.heap.size vn vp D) (hok:deskOk D=true) (hl:s.length<=100000000) (hV:LV w w.heap.size) :
  Calls Tryz.prog 51 #[.agg #[vn,vp],.string (bs s)] w (AnsP (askL D.now s) w):=by
 by_cases hWMany:s=wMany
 ·subst hWMany;exact c_ansMany D vn vp w hK hok hV
 by_cases hWWaits:s=wWaits
 ·subst hWWaits;exact c_ansWaits D vn vp w hK hok hV
 by_cases hWLeaves:s=wLeaves
 ·subst hWLeaves;exact c_ansLeaves D vn vp w hK hok hV
 by_cases hWLast:s=wLast
 ·subst hWLast;exact c_ansLast D vn vp w hK hok hV
 by_cases hWRounds:s=wRounds
 ·subst hWRounds;exact c_ansRounds D vn vp w hK hok hV
 by_cases hWBusy:s=wBusy
 ·subst hWBusy;exact c_ansBusy D vn vp w hK hok hV
 by_cases hWNeed:s=wNeed
 ·subst hWNeed;exact c_ansNeed D vn vp w hK hok hV
 by_cases hWLeast:s=wLeast
 ·subst hWLeast;exact c_ansLeast D vn vp w hK hok hV
 by_cases hWIdle:s=wIdle
 ·subst hWIdle;exact c_ansIdle D vn vp w hK hok hV
 have hnw:NotWord s:=⟨hWMany,hWWaits,hWLeaves,hWLast,hWRounds,hWBusy,hWNeed,hWLeast,hWIdle⟩
 rcases split_at 32 s with hno | ⟨u,v,hs,hu⟩
 ·rw [ask_none hnw hno]
  exact c_ansTNo D vn vp s s [] false hl (by simp) w hK hok hV hnw (cutC_none hno) (by decide)
 ·have ht:Lib.cut s [32]=(u,v,true):=by rw [hs];exact cutC_at v hu
  have hvl:v.length<=100000000:=by have:s.length=u.length+1+v.length:=by rw [hs];simp;omega
                                   omega
  rw [ask_two hnw hs hu]
  have e6:okN v 6=digOk v:=by
   cases h:digOk v with
   | false=>simp [okN,h]
   | true=>have:=(digOk_parts h).1;simp [okN,h];omega
  cases hd:digOk v with
  | false =>
   rw [if_neg (by simp)]
   exact c_ansTNo D vn vp s u v true hl hvl w hK hok hV hnw ht (by rw [e6,hd])
  | true =>
   rw [if_pos rfl]
   have hd6:okN v 6=true:=by rw [e6,hd]
   by_cases h1:u=wWork
   ·have K:=c_ansTWork D vn vp s u v true hl hvl w hK hok hV hnw ht hd6 h1
    rwa [<- askW_work,<- h1] at K
   ·by_cases h2:u=wOrder
    ·have K:=c_ansTOrder D vn vp s u v true hl hvl w hK hok hV hnw ht hd6 h2
     rwa [<- askW_order,<- h2] at K
    ·by_cases h3:u=wSum
     ·have K:=c_ansTSum D vn vp s u v true hl hvl w hK hok hV hnw ht hd6 h3
      rwa [<- askW_sum,<- h3] at K
     ·by_cases h4:u=wBeside
      ·have K:=c_ansTBeside D vn vp s u v true hl hvl w hK hok hV hnw ht hd6 h4
       rwa [<- askW_beside,<- h4] at K
      ·rw [askW_no _ _ h1 h2 h3 h4]
       exact c_ansTUn D vn vp s u v true hl hvl w hK hok hV hnw ht hd6 h1 h2 h3 h4
end
section
attribute [local go_sem ↓] Go.wp_at_zero Go.wp_at_succ
theorem c_line12No (D:KV) (vn vp:Value) (s:List UInt8) (w:World) (hK:Ks w w.heap.size vn vp D) (hs:SmallK D) (ho:deskOk D=false) :
  Calls Tryz.prog 14 #[.agg #[vn,vp],.string (bs s)] w (LineP D s w):=by
 have HD:=Lib.hid (fun (W:World) (hb:Below w.heap.size w W)=>c_iDeskOk D vn vp W ((hK.below hb).more hb.size) hs)
 obtain ⟨⟨An,cn,rfl,hcn,hN⟩,Ap,cp,rfl,hcp,hP⟩:=hK
 obtain ⟨w0,hw0,hz0,hb0,bR,hS⟩:=two_boxes w (.slice An D.now.length cn) (.slice Ap D.past.length cp)
 have hle0:w.heap.size+2<=w0.heap.size:=by omega
 obtain ⟨c0,c1⟩:=hS _ (Below.refl _ w0)
 have HV:=Lib.hid (line_no (s:=s) ho)
 have H:=Lib.hid ho
 clear hN hP hs hS hz0 ho
 go_enter Tryz.func14,Tryz.ntmps14
 go_wp2_with fail
 refine (HD.out _ hb0).mono ?_
 rintro e w1 ⟨rfl,hb1⟩
 rw [H.out]
 have b2:=(hb1.block (w.heap.size+1) (by omega)).trans bR
 obtain ⟨r0,r1,f0,f1⟩:=resBox b2
 clear c0 c1 hw0
 go_wp2_with fail
 obtain ⟨k0,k1⟩:=put2 (.slice none 0 0) (.slice none 0 0) b2
 refine bodyPost_ret (v:=.tuple #[.agg #[.slice none 0 0,.slice none 0 0],.string (bs [])]) (by simp [results,Tryz.f14,go_sem,k0,k1];rfl) rfl ?_
 exact ⟨_,_,[],by rw [HV.out],by rw [HV.out];exact KO.zero _ _,below_put (hb0.trans (hb1.mono (by omega))) _ _ (by omega)⟩
theorem c_line12Deed (D:KV) (vn vp:Value) (s:List UInt8) (w:World) (hK:Ks w w.heap.size vn vp D) (ho:deskOk D=true) (hl:s.length<=100000000) (hV:LV w w.heap.size) (dk da db:Int) (hrd:readD s=some ⟨dk,da,db⟩) :
  Calls Tryz.prog 14 #[.agg #[vn,vp],.string (bs s)] w (LineP D s w):=by
 have hs:=small_ok ho
 have HVd:=Lib.hid (line_deed ho hrd)
 have HD:=Lib.hid (fun (W:World) (hb:Below w.heap.size w W)=>c_iDeskOk D vn vp W ((hK.below hb).more hb.size) hs)
 have HRd:=Lib.hid (fun (W:World) (hb:Below w.heap.size w W)=>c_iReadDeed s hl W (hV.at hb))
 rw [hrd] at HRd
 have HDo:=Lib.hid (fun (W:World) (hb:Below w.heap.size w W)=>c_after12 D vn vp dk da db W ((hK.below hb).more hb.size) ho)
 obtain ⟨⟨An,cn,rfl,hcn,hN⟩,Ap,cp,rfl,hcp,hP⟩:=hK
 obtain ⟨w0,hw0,hz0,hb0,bR,hS⟩:=two_boxes w (.slice An D.now.length cn) (.slice Ap D.past.length cp)
 have hle0:w.heap.size+2<=w0.heap.size:=by omega
 have HS:=Lib.hid (fun (W:World) (hb:Below w0.heap.size w0 W)=>hS W (hb.mono (by omega)))
 have HB0:=Lib.hid (fun (W:World) (h:Below w0.heap.size w0 W)=>hb0.trans (h.mono (show w.heap.size<=w0.heap.size by omega)))
 have HR:=Lib.hid (fun (W:World) (h:Below w0.heap.size w0 W)=>(h.block (w.heap.size+1) (by omega)).trans bR)
 obtain ⟨c0,c1⟩:=HS.out _ (Below.refl _ w0)
 have H:=Lib.hid ho
 clear hN hP hs hS bR hz0 ho hrd hV
 cases hdo:(deskDo D ⟨dk,da,db⟩).2 with
 | true =>
  have HV:=Lib.hid (show deskLine D s=((deskDo D ⟨dk,da,db⟩).1,wOk) by rw [HVd.out,hdo];rfl)
  have HDn:=Lib.hid hdo
  clear hdo
  go_enter Tryz.func14,Tryz.ntmps14
  go_wp2_with fail
  refine (HD.out _ hb0).mono ?_
  rintro e w1 ⟨rfl,hb1⟩
  rw [H.out]
  clear c0 c1 hw0
  go_wp2_with fail
  refine (HRd.out _ (HB0.out _ hb1)).mono ?_
  rintro e w2 ⟨rfl,hb2⟩
  simp only [readV]
  have hx2:=hb1.trans (hb2.mono hb1.size)
  obtain ⟨w3,hw3⟩:∃ w3,w2.alloc (.cells #[.int .i64 dk,.int .i64 da,.int .i64 db] 39)=w3:=⟨_,rfl⟩
  have hx3:Below w0.heap.size w0 w3:=by rw [<- hw3];exact hx2.alloc hx2.size _
  have bN:w3.heap[w2.heap.size]?=some (.cells #[.int .i64 dk,.int .i64 da,.int .i64 db] 39 (0,0)):=by rw [<- hw3];exact heap_alloc_new _ _
  have n0:=cell_of_row _ w2.heap.size 0 _ _ _ bN
  have n1:=cell_of_row _ w2.heap.size 1 _ _ _ bN
  have n2:=cell_of_row _ w2.heap.size 2 _ _ _ bN
  obtain ⟨d0,d1⟩:=HS.out _ hx3
  clear bN
  go_wp2_with fail
  refine (HDo.out _ (HB0.out _ hx3)).mono ?_
  rintro e w4 ⟨un,up,us,rfl,ko,hb4⟩
  obtain ⟨A5,c5,A6,c6,rfl,rfl⟩:=ko.slices
  rw [HDn.out]
  generalize (deskDo D ⟨dk,da,db⟩).1=M at *
  have hx4:=hx3.trans (hb4.mono hx3.size)
  obtain ⟨w5,hw5⟩:∃ w5,w4.alloc (.cells #[.slice A5 M.now.length c5,.slice A6 M.past.length c6] 31)=w5:=⟨_,rfl⟩
  have hx5:Below w0.heap.size w0 w5:=by rw [<- hw5];exact hx4.alloc hx4.size _
  have bM:w5.heap[w4.heap.size]?=some (.cells #[.slice A5 M.now.length c5,.slice A6 M.past.length c6] 31 (0,0)):=by rw [<- hw5];exact heap_alloc_new _ _
  have m0:=cell_of_row _ w4.heap.size 0 _ _ _ bM
  have m1:=cell_of_row _ w4.heap.size 1 _ _ _ bM
  have b5:=HR.out _ hx5
  obtain ⟨r0,r1,f0,f1⟩:=resBox b5
  have HK:Hid (KO w5 w3.heap.size (.slice A5 M.now.length c5) (.slice A6 M.past.length c6) M us):=Lib.hid (by rw [<- hw5];exact ko.below ((Below.refl w4.heap.size w4).alloc (Nat.le_refl _) _) (Nat.le_refl _))
  have hz3:=hx3.size
  have HX:=Lib.hid (HB0.out _ hx5)
  clear d0 d1 n0 n1 n2 bM ko hw3 hx4 hx2
  go_wp2_with fail
  obtain ⟨k0,k1⟩:=put2 (.slice A5 M.now.length c5) (.slice A6 M.past.length c6) b5
  refine bodyPost_ret (v:=.tuple #[.agg #[.slice A5 M.now.length c5,.slice A6 M.past.length c6],.string (bs wOk)]) (by simp [results,Tryz.f14,go_sem,k0,k1];rfl) rfl ?_
  exact ⟨_,_,us,by rw [HV.out],by rw [HV.out];exact HK.out.putRes _ _ (by omega) (by omega),below_put HX.out _ _ (by omega)⟩
 | false =>
  have HV:=Lib.hid (show deskLine D s=((deskDo D ⟨dk,da,db⟩).1,wNot) by rw [HVd.out,hdo];rfl)
  have HDn:=Lib.hid hdo
  clear hdo
  go_enter Tryz.func14,Tryz.ntmps14
  go_wp2_with fail
  refine (HD.out _ hb0).mono ?_
  rintro e w1 ⟨rfl,hb1⟩
  rw [H.out]
  clear c0 c1 hw0
  go_wp2_with fail
  refine (HRd.out _ (HB0.out _ hb1)).mono ?_
  rintro e w2 ⟨rfl,hb2⟩
  simp only [readV]
  have hx2:=hb1.trans (hb2.mono hb1.size)
  obtain ⟨w3,hw3⟩:∃ w3,w2.alloc (.cells #[.int .i64 dk,.int .i64 da,.int .i64 db] 39)=w3:=⟨_,rfl⟩
  have hx3:Below w0.heap.size w0 w3:=by rw [<- hw3];exact hx2.alloc hx2.size _
  have bN:w3.heap[w2.heap.size]?=some (.cells #[.int .i64 dk,.int .i64 da,.int .i64 db] 39 (0,0)):=by rw [<- hw3];exact heap_alloc_new _ _
  have n0:=cell_of_row _ w2.heap.size 0 _ _ _ bN
  have n1:=cell_of_row _ w2.heap.size 1 _ _ _ bN
  have n2:=cell_of_row _ w2.heap.size 2 _ _ _ bN
  obtain ⟨d0,d1⟩:=HS.out _ hx3
  clear bN
  go_wp2_with fail
  refine (HDo.out _ (HB0.out _ hx3)).mono ?_
  rintro e w4 ⟨un,up,us,rfl,ko,hb4⟩
  obtain ⟨A5,c5,A6,c6,rfl,rfl⟩:=ko.slices
  rw [HDn.out]
  generalize (deskDo D ⟨dk,da,db⟩).1=M at *
  have hx4:=hx3.trans (hb4.mono hx3.size)
  obtain ⟨w5,hw5⟩:∃ w5,w4.alloc (.cells #[.slice A5 M.now.length c5,.slice A6 M.past.length c6] 31)=w5:=⟨_,rfl⟩
  have hx5:Below w0.heap.size w0 w5:=by rw [<- hw5];exact hx4.alloc hx4.size _
  have bM:w5.heap[w4.heap.size]?=some (.cells #[.slice A5 M.now.length c5,.slice A6 M.past.length c6] 31 (0,0)):=by rw [<- hw5];exact heap_alloc_new _ _
  have m0:=cell_of_row _ w4.heap.size 0 _ _ _ bM
  have m1:=cell_of_row _ w4.heap.size 1 _ _ _ bM
  have b5:=HR.out _ hx5
  obtain ⟨r0,r1,f0,f1⟩:=resBox b5
  have HK:Hid (KO w5 w3.heap.size (.slice A5 M.now.length c5) (.slice A6 M.past.length c6) M us):=Lib.hid (by rw [<- hw5];exact ko.below ((Below.refl w4.heap.size w4).alloc (Nat.le_refl _) _) (Nat.le_refl _))
  have hz3:=hx3.size
  have HX:=Lib.hid (HB0.out _ hx5)
  clear d0 d1 n0 n1 n2 bM ko hw3 hx4 hx2
  go_wp2_with fail
  obtain ⟨k0,k1⟩:=put2 (.slice A5 M.now.length c5) (.slice A6 M.past.length c6) b5
  refine bodyPost_ret (v:=.tuple #[.agg #[.slice A5 M.now.length c5,.slice A6 M.past.length c6],.string (bs wNot)]) (by simp [results,Tryz.f14,go_sem,k0,k1];rfl) rfl ?_
  exact ⟨_,_,us,by rw [HV.out],by rw [HV.out];exact HK.out.putRes _ _ (by omega) (by omega),below_put HX.out _ _ (by omega)⟩
theorem c_line12Ask (D:KV) (vn vp:Value) (s:List UInt8) (w:World) (hK:Ks w w.heap.size vn vp D) (ho:deskOk D=true) (hl:s.length<=100000000) (hV:LV w w.heap.size) (hrd:readD s=none) :
  Calls Tryz.prog 14 #[.agg #[vn,vp],.string (bs s)] w (LineP D s w):=by
 have hs:=small_ok ho
 have HV:=Lib.hid (line_ask ho hrd)
 have HD:=Lib.hid (fun (W:World) (hb:Below w.heap.size w W)=>c_iDeskOk D vn vp W ((hK.below hb).more hb.size) hs)
 have HRd:=Lib.hid (fun (W:World) (hb:Below w.heap.size w W)=>c_iReadDeed s hl W (hV.at hb))
 rw [hrd] at HRd
 have HCp:=Lib.hid (fun (W:World) (hb:Below w.heap.size w W)=>c_copied D vn vp W ((hK.below hb).more hb.size) hs)
 have HAn:=Lib.hid (fun (W:World) (hb:Below w.heap.size w W)=>c_answer D vn vp s W ((hK.below hb).more hb.size) ho hl (hV.at hb))
 obtain ⟨⟨An,cn,rfl,hcn,hN⟩,Ap,cp,rfl,hcp,hP⟩:=hK
 obtain ⟨w0,hw0,hz0,hb0,bR,hS⟩:=two_boxes w (.slice An D.now.length cn) (.slice Ap D.past.length cp)
 have hle0:w.heap.size+2<=w0.heap.size:=by omega
 have HS:=Lib.hid hS
 have HB0:=Lib.hid (fun (W:World) (h:Below w0.heap.size w0 W)=>hb0.trans (h.mono (show w.heap.size<=w0.heap.size by omega)))
 have HR:=Lib.hid (fun (W:World) (h:Below w0.heap.size w0 W)=>(h.block (w.heap.size+1) (by omega)).trans bR)
 obtain ⟨c0,c1⟩:=HS.out _ (Below.refl _ w0)
 have H:=Lib.hid ho
 clear hN hP hs hS bR hz0 ho hrd hV
 go_enter Tryz.func14,Tryz.ntmps14
 go_wp2_with fail
 refine (HD.out _ hb0).mono ?_
 rintro e w1 ⟨rfl,hb1⟩
 rw [H.out]
 clear c0 c1 hw0
 go_wp2_with fail
 refine (HRd.out _ (HB0.out _ hb1)).mono ?_
 rintro e w2 ⟨rfl,hb2⟩
 simp only [readV]
 have hx2:=hb1.trans (hb2.mono hb1.size)
 go_wp2_with fail
 have hx3:Below w0.heap.size w0 (w2.alloc (.cells #[.int .i64 0,.int .i64 0,.int .i64 0] 39)):=hx2.alloc hx2.size _
 generalize w2.alloc (.cells #[.int .i64 0,.int .i64 0,.int .i64 0] 39)=w3 at *
 have hx3d:Below w0.heap.size w0 w3.drew:=hx3.drew
 obtain ⟨d0,d1⟩:=HS.out _ (hx3.mono (by omega))
 go_region_held3 (fun W=>W.cell? ⟨w.heap.size,0,none⟩=some (.slice An D.now.length cn)∧W.cell? ⟨w.heap.size,1,none⟩=some (.slice Ap D.past.length cp))
  (first
    | exact HS.out _ hy7
    | exact HS.out _ (hx6.mono (by omega))
    | exact HS.out _ (hx5.mono (by omega))
    | go_keep)
  (first
    | (go_at_call 50;refine (HCp.out _ (HB0.out _ hx3d)).mono ?_;rintro e w5 ⟨un,up,us,rfl,ko,hb5⟩;obtain ⟨A5,c5,A6,c6,rfl,rfl⟩:=ko.slices;have hx5:Below w0.heap.size w0 w5:=hx3d.trans (hb5.mono hx3d.size))
    | (go_at_call 51;refine (HAn.out w5 (HB0.out _ hx5)).mono ?_;rintro e w6 ⟨rfl,hb6⟩;have hz5:=hx5.size;have hx6:Below w0.heap.size w0 w6:=hx5.trans (hb6.mono hz5);have b6:=HR.out _ hx6;obtain ⟨r0,r1,f0,f1⟩:=resBox b6;have hy7:=below_put (hx6.mono (show w.heap.size+1<=w0.heap.size by omega)) (.slice A5 D.now.length c5) (.slice A6 D.past.length c6) (Nat.le_refl (w.heap.size+1)))
    | fail)
 have HK:=Lib.hid (ko.below hb6 (Nat.le_refl _))
 have hz3:=hx3d.size
 have HB:=Lib.hid hy7
 clear ko hy7 hx6 hx5
 go_wp2_with fail
 obtain ⟨k0,k1⟩:=put2 (.slice A5 D.now.length c5) (.slice A6 D.past.length c6) b6
 refine bodyPost_ret (v:=.tuple #[.agg #[.slice A5 D.now.length c5,.slice A6 D.past.length c6],.string (bs (askL D.now s))]) (by simp [results,Tryz.f14,go_sem,k0,k1]) rfl ?_
 exact ⟨_,_,us,by rw [HV.out],by rw [HV.out];exact HK.out.putRes _ _ (by omega) (by omega),hb0.trans (HB.out.mono (by omega))⟩
theorem c_iDeskLine (D:KV) (vn vp:Value) (s:List UInt8) (w:World) (hK:Ks w w.heap.size vn vp D) (hs:SmallK D) (hl:s.length<=100000000) (hV:LV w w.heap.size) :
  Calls Tryz.prog 14 #[.agg #[vn,vp],.string (bs s)] w (LineP D s w):=by
 cases ho:deskOk D with
 | false=>exact c_line12No D vn vp s w hK hs ho
 | true =>
  cases hrd:readD s with
  | some d=>exact c_line12Deed D vn vp s w hK ho hl hV d.k d.a d.b hrd
  | none=>exact c_line12Ask D vn vp s w hK ho hl hV hrd
end
end Go.Proofs.YthpccmkagikhjaaGreatDoor

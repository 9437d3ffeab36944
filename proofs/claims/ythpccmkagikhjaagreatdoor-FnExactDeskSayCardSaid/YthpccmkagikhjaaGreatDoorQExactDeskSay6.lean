import Derived.Test.YthpccmkagikhjaaGreatDoorQExactDeskSay3
import Derived.Test.YthpccmkagikhjaaGreatDoorQExactDeskSay4
import Derived.Test.YthpccmkagikhjaaGreatDoorQExactDeskSay5
import Derived.RegionCalls
import Derived.Lib.SliceRun
namespace Go.Proofs.YthpccmkagikhjaaGreatDoor
set_option linter.unusedVariables false
open Go.RowKit
set_option maxRecDepth 8000
set_option maxHeartbeats 8000000
section
attribute [local go_sem ↓] Go.wp_at_zero Go.wp_at_succ
theorem c_leaveAfter (x y t:Int) (w:World) (h1:-1000<=x) (h2:x<=1000) (h3:-1000<=t) (h4:t<=1000) (h5:-1000<=y) (h6:y<=1000) :
  Calls Tryz.prog 194 #[.agg #[.int .i64 x,.int .i64 y],.int .i64 t] w fun e w'=>e=.returned (.int .i64 (x+t+y))∧Below w.heap.size w w':=by
 go_enter Tryz.func194,Tryz.ntmps194
 go_wp2
 go_ret
 exact ⟨rfl,by (repeat (first | exact rfl | exact Below.refl _ _ | (with_reducible refine Below.drew ?_) | (with_reducible refine Below.drewN ?_ _) | (with_reducible refine Below.alloc ?_ ?_ _) | (with_reducible refine Below.setCell ?_ ?_ _) | (show _<=_;focus (first | omega | (simp;done) | (simp;omega)))))⟩
theorem c_iLeavesOf (L:List (Int×Int)) (A:Option Addr) (c:Nat) (w:World) (hA:Cs w w.heap.size A L) (hn:L.length<=140737488351232) :
  Calls Tryz.prog 164 #[.slice A L.length c] w fun e w'=>∃ v,e=.returned v∧IO w' w.heap.size v (leaves L)∧Below w.heap.size w w':=by
 by_cases h:cOk L=true
 ·have Hg:=Lib.hid (leaves_yes h)
  have Hgg:=Lib.hid (waits_yes h)
  have Hbd:=Lib.hid (fun k=>@cOk_bd L k h)
  have Hwb:=Lib.hid (waitAt_bd h)
  have hlen:=cOk_len h
  clear h
  go_enter Tryz.func164,Tryz.ntmps164
  go_wp2_with fail
  refine (c_iWaitsOf L A c _ hA hn).mono ?_
  rintro e w1 ⟨v1,rfl,o1,hb1⟩
  rw [Hgg.out] at o1
  obtain ⟨G,g,rfl,-,-,hG⟩:=o1.form
  have hs1:=hb1.size
  rw [waitsTo_len] at *
  have HG:=Lib.hid hG
  clear hG o1
  go_wp2_with fail
  go_loopw [3,9] (fun o i wr=>∃ k:Nat,k<=L.length∧i=.int .i64 k∧IO wr w1.heap.size o (leavesTo L k)∧Below w1.heap.size w1 wr)
   (fun _ i _=>L.length - (intOf i).toNat)
  case atStart=>exact ⟨0,by omega,rfl,IO.nil _ _,Below.refl _ _⟩
  case round =>
   obtain ⟨k,hk,rfl,hown,hb⟩:=hrel
   have hsz:=hb.size
   by_cases hlt:k < L.length
   ·obtain ⟨b,off,rfl,hlb,hc⟩:=hA (by omega)
    have hB:=hb1.trans (hb.mono hs1)
    have c1:=(hB.cell (p:=⟨b,off+k * 2,none⟩) hlb).trans (hc k hlt).1
    have c2:=(hB.cell (p:=⟨b,off+k * 2+1,none⟩) hlb).trans (hc k hlt).2
    clear hc
    obtain ⟨gb,go,rfl,hgb,hgc⟩:=HG.out (by rw [waitsTo_len];omega)
    have c3:=(hb.cell (p:=⟨gb,go+k,none⟩) hgb).trans (hgc k (by rw [waitsTo_len];omega))
    rw [Z_waitsTo hlt] at c3
    clear hgc
    have bd1:=Hbd.out k hlt
    have bw:=Hwb.out k hlt
    go_wp2_with fail
    refine (c_leaveAfter (X L k) (Y L k) (waitAt L k) _ (by omega) (by omega) (by omega) (by omega) (by omega) (by omega)).mono ?_
    rintro e w5 ⟨rfl,hb5⟩
    have o5:=hown.below hb5 (Nat.le_refl _)
    have hs5:=hb5.size
    have hz5:=hb.trans (hb5.mono hsz)
    have q5:(leavesTo L k).length<=1000000000000:=by rw [leavesTo_len];omega
    have hq:w1.heap.size<=w5.heap.size:=by omega
    clear hb5 hown bd1 bw
    go_wp2_with (refine app_I ?_ (.tmp 14) (.tmp 21) ?_ w1.heap.size u3 (leavesTo L k) (X L k+waitAt L k+Y L k) w5.heap.size ?_ ?_ ?_ ?_ ?_ ?_ ?_;rfl;rfl;rfl;exact (o5.alloc _);rfl;exact (heap_alloc_new _ _);exact q5;exact (Nat.le_trans hq (by simp));intro g7 cap w7 hown7 hgr7 hb7)
    go_roundw
    case rel =>
     refine ⟨k+1,by omega,by go_num,by rw [leavesTo_succ];exact hown7,?_⟩
     refine Below.trans ?_ hb7
     (repeat (first | exact hz5 | exact Below.refl _ _ | (with_reducible refine Below.drew ?_) | (with_reducible refine Below.drewN ?_ _) | (with_reducible refine Below.alloc ?_ ?_ _) | (with_reducible refine Below.setCell ?_ ?_ _) | (show _<=_;focus (first | omega | (simp;done) | (simp;omega)))))
    case measure=>simp [intOf];omega
   ·go_wp2_with fail
    go_ret
    refine ⟨_,rfl,?_,hb1.trans (hb.mono hs1)⟩
    rw [Hg.out,show L.length=k by omega]
    exact hown.mono hs1
 ·have hno:cOk L=false:=by simpa using h
  have Hg:=Lib.hid (leaves_no hno)
  have Hgg:=Lib.hid (waits_no hno)
  clear h hno
  go_enter Tryz.func164,Tryz.ntmps164
  go_wp2_with fail
  refine (c_iWaitsOf L A c _ hA hn).mono ?_
  rintro e w1 ⟨v1,rfl,o1,hb1⟩
  rw [Hgg.out] at o1
  obtain ⟨G,g,rfl,-,-,-⟩:=o1.form
  go_wp2_with fail
  refine wp_loop_rounds 1 ?_
  rw [rounds_succ]
  go_wp2_with fail
  go_ret
  exact ⟨_,rfl,by rw [Hg.out];exact IO.nil _ _,hb1⟩
theorem c_sLeavesOf (L:List (Int×Int)) (A:Option Addr) (c:Nat) (w:World) (hA:Cs w w.heap.size A L) (hn:L.length<=140737488351232) :
  Calls Tryz.prog 68 #[.slice A L.length c] w fun e w'=>∃ v,e=.returned v∧IO w' w.heap.size v (leaves L)∧Below w.heap.size w w':=by
 by_cases h:cOk L=true
 ·have Hg:=Lib.hid (leaves_yes h)
  have Hgg:=Lib.hid (waits_yes h)
  have Hbd:=Lib.hid (fun k=>@cOk_bd L k h)
  have Hwb:=Lib.hid (waitAt_bd h)
  have hlen:=cOk_len h
  clear h
  go_enter Tryz.func68,Tryz.ntmps68
  go_wp2_with fail
  have hb0:Below w.heap.size w (w.alloc (.cells #[] 3)):=by (repeat (first | exact rfl | exact Below.refl _ _ | (with_reducible refine Below.drew ?_) | (with_reducible refine Below.drewN ?_ _) | (with_reducible refine Below.alloc ?_ ?_ _) | (with_reducible refine Below.setCell ?_ ?_ _) | (show _<=_;focus (first | omega | (simp;done) | (simp;omega)))))
  refine (c_sWaitsOf L A c _ ((hA.below hb0).more hb0.size) hn).mono ?_
  rintro e w1 ⟨v1,rfl,o1,hb1⟩
  rw [Hgg.out] at o1
  obtain ⟨G,g,rfl,-,hG⟩:=o1.formG
  have hbx:=hb0.trans (hb1.mono hb0.size)
  have hsx:w.heap.size < w1.heap.size:=by have:=hb1.size;simp at this;omega
  have own0:IO w1 w.heap.size (.slice (some ⟨w.heap.size,0,none⟩) 0 0) []:=(IO.empty w (Nat.le_refl _)).below hb1 (Nat.le_refl _)
  rw [waitsTo_len] at hG ⊢
  have HG:=Lib.hid hG
  clear o1 hb0 hb1 hG
  go_wp2_with fail
  go_loopw [3,5] (fun o i wr=>∃ k:Nat,k<=L.length∧i=.int .i64 k∧IO wr w.heap.size o (leavesTo L k)∧Hid (Sep w.heap.size w1.heap.size o)∧Hid (Mid w.heap.size w1.heap.size w1 wr)∧w1.heap.size<=wr.heap.size∧Below w.heap.size w wr)
   (fun _ i _=>L.length - (intOf i).toNat)
  case atStart=>exact ⟨0,by omega,rfl,own0,Sep.lo _ _ _ _,Mid.refl _ _ _,Nat.le_refl _,hbx⟩
  case round =>
   obtain ⟨k,hk,rfl,hown,hsep,hmid,hz1,hb⟩:=hrel
   by_cases hlt:k < L.length
   ·obtain ⟨b,off,rfl,hlb,hc⟩:=hA (by omega)
    have c1:=(hb.cell (p:=⟨b,off+k * 2,none⟩) hlb).trans (hc k hlt).1
    have c2:=(hb.cell (p:=⟨b,off+k * 2+1,none⟩) hlb).trans (hc k hlt).2
    obtain ⟨gb,rfl,hgb1,hgb2,hgc⟩:=HG.out (by omega)
    have hgbs:w.heap.size < gb:=by simp at hgb1;omega
    have c3:wr.cell? ⟨gb,k,none⟩=some (.int .i64 (waitAt L k)):=by
     rw [hmid.out.cell hgbs hgb2,hgc k hlt,Z_waitsTo hlt]
    clear hc hgc
    have bd1:=Hbd.out k hlt
    have bw:=Hwb.out k hlt
    have q5:(leavesTo L k).length<=1000000000000:=by rw [leavesTo_len];omega
    have hsz:=hb.size
    have hlw:b < wr.heap.size:=by omega
    have k1:(k:Int) < (L.length:Int):=by omega
    have k2:(0:Int)<=(k:Int):=by omega
    go_wp2_with fail
    have q8:IntKind.i64.wrap (X L k+waitAt L k)=X L k+waitAt L k:=IntWalk.i64_in _ (by omega)
    have q9:IntKind.i64.wrap (X L k+waitAt L k+Y L k)=X L k+waitAt L k+Y L k:=IntWalk.i64_in _ (by omega)
    have hgw:gb < wr.heap.size:=by omega
    have HU:=Lib.hid (And.intro q5 (And.intro hz1 (And.intro hsz (And.intro hgbs hgb2))))
    clear q5 hz1 hsz hgbs hgb1 hgb2 bd1 bw hlen
    go_region_held3 (fun w'=>w'.cell? ⟨b,off+k * 2,none⟩=some (.int .i64 (X L k))∧w'.cell? ⟨b,off+k * 2+1,none⟩=some (.int .i64 (Y L k))∧w'.cell? ⟨gb,k,none⟩=some (.int .i64 (waitAt L k)))
     (first
       | go_keep
       | exact ⟨(hb70.cell (p:=⟨b,_,none⟩) hlb).trans ((((Below.refl _ _).alloc (Nat.le_refl _) _).cell (p:=⟨b,_,none⟩) hlw).trans c1),(hb70.cell (p:=⟨b,_,none⟩) hlb).trans ((((Below.refl _ _).alloc (Nat.le_refl _) _).cell (p:=⟨b,_,none⟩) hlw).trans c2),(hmid7.cell HU.out.2.2.2.1 HU.out.2.2.2.2).trans ((hmid.out.cell HU.out.2.2.2.1 HU.out.2.2.2.2).symm.trans c3)⟩)
     ((refine step_IS ?_ (.tmp 15) (.tmp 32) ?_ w.heap.size u3 (leavesTo L k) (X L k+waitAt L k+Y L k) wr.heap.size ?_ ?_ ?_ ?_ ?_ ?_ w.heap.size w1.heap.size w1 ?_ ?_ ?_ ?_;rfl;rfl;rfl;exact ((hown.alloc _).drew);rfl;exact (heap_alloc_new _ _);exact HU.out.1;exact (Nat.le_trans HU.out.2.2.1 (by simp));exact hsep.out;exact (hmid.out.below (Below.alloc (Below.refl wr.heap.size _).drew (Nat.le_refl _) _) HU.out.2.1);exact (Nat.le_trans HU.out.2.1 (by simp));intro g7 cap w7 hown7 hb70 hsep7 hmid7))
    clear q8 q9
    have hz7:=hb70.size
    go_wp2_with fail
    go_roundw
    case rel =>
     refine ⟨k+1,by omega,by go_num,by rw [leavesTo_succ];exact hown7,hsep7,hmid7,?_,?_⟩
     ·have:=HU.out.2.1
      simp at hz7;omega
     ·refine Below.trans ?_ hb70
      have:=HU.out.2.2.1
      (repeat (first | exact hb | exact Below.refl _ _ | (with_reducible refine Below.drew ?_) | (with_reducible refine Below.drewN ?_ _) | (with_reducible refine Below.alloc ?_ ?_ _) | (with_reducible refine Below.setCell ?_ ?_ _) | (show _<=_;focus (first | omega | (simp;done) | (simp;omega)))))
    case measure=>simp [intOf];omega
   ·go_wp2_with fail
    go_ret
    refine ⟨_,rfl,?_,hb⟩
    rw [Hg.out,show L.length=k by omega]
    exact hown
 ·have hno:cOk L=false:=by simpa using h
  have Hg:=Lib.hid (leaves_no hno)
  have Hgg:=Lib.hid (waits_no hno)
  clear h hno
  go_enter Tryz.func68,Tryz.ntmps68
  go_wp2_with fail
  have hb0:Below w.heap.size w (w.alloc (.cells #[] 3)):=by (repeat (first | exact rfl | exact Below.refl _ _ | (with_reducible refine Below.drew ?_) | (with_reducible refine Below.drewN ?_ _) | (with_reducible refine Below.alloc ?_ ?_ _) | (with_reducible refine Below.setCell ?_ ?_ _) | (show _<=_;focus (first | omega | (simp;done) | (simp;omega)))))
  refine (c_sWaitsOf L A c _ ((hA.below hb0).more hb0.size) hn).mono ?_
  rintro e w1 ⟨v1,rfl,o1,hb1⟩
  rw [Hgg.out] at o1
  obtain ⟨G,g,rfl,-,-⟩:=o1.formG
  have hbx:=hb0.trans (hb1.mono hb0.size)
  have own0:IO w1 w.heap.size (.slice (some ⟨w.heap.size,0,none⟩) 0 0) []:=(IO.empty w (Nat.le_refl _)).below hb1 (Nat.le_refl _)
  go_wp2_with fail
  refine wp_loop_rounds 1 ?_
  rw [rounds_succ]
  go_wp2_with fail
  go_ret
  exact ⟨_,rfl,by rw [Hg.out];exact own0,hbx⟩
end
section
attribute [local go_sem ↓] Go.wp_at_zero Go.wp_at_succ
theorem c_isPlace (L:List (Int×Int)) (A:Option Addr) (c:Nat) (t:Int) (w:World) (hn:L.length<=140737488351232) :
  Calls Tryz.prog 179 #[.slice A L.length c,.int .i64 t] w fun e w'=>e=.returned (.bool (decide (0<=t∧t<=(L.length:Int) - 1)))∧w=w':=by
 go_enter Tryz.func179,Tryz.ntmps179
 go_wp2_with fail
 refine (c_within _ _ _ _).mono ?_
 rintro e w' ⟨rfl,rfl⟩
 go_wp2_with fail
 go_ret
 exact ⟨by simp,rfl⟩
end
section
attribute [local go_sem ↓] Go.wp_at_zero Go.wp_at_succ
theorem placeOk_nat {L:List (Int×Int)} {t:Int} (h:placeOk L t=true):∃ n:Nat,t=n∧n < L.length∧cOk L=true:=by
 obtain ⟨h1,h2,h3⟩:=placeOk_parts h
 exact ⟨t.toNat,by omega,by omega,h1⟩
end
section
attribute [local go_sem ↓] Go.wp_at_zero Go.wp_at_succ
theorem c_iIdleUntil (L:List (Int×Int)) (A:Option Addr) (c:Nat) (w:World) (hA:Cs w w.heap.size A L) (hn:L.length<=140737488351232) :
  Calls Tryz.prog 172 #[.slice A L.length c] w fun e w'=>e=.returned (.int .i64 (idleV L))∧Below w.heap.size w w':=by
 by_cases h:cOk L=true
 ·have HV:=Lib.hid (idleV_yes h)
  have hlen:=cOk_len h
  by_cases h0:L.length=0
  ·have h0b:((L.length:Int) == 0)=true:=beq_iff_eq.2 (by omega)
   have H:=Lib.hid h;clear h
   have H0:=Lib.hid h0;clear h0
   go_enter Tryz.func172,Tryz.ntmps172
   go_wp2_with fail
   refine (c_iCustomersOk L A c _ hA hn).mono ?_
   rintro e w1 ⟨rfl,hb1⟩
   rw [H.out]
   go_wp2_with fail
   go_ret
   exact ⟨by rw [HV.out,H0.out];rfl,hb1⟩
  ·have h0b:((L.length:Int) == 0)=false:=beq_eq_false_iff_ne.2 (by omega)
   have HL:=Lib.hid (leaves_yes h)
   have HN:=Lib.hid (show needOf L=sumTo L L.length by simp [needOf,h])
   have hid:=idle_leave h (n:=L.length - 1) (by omega)
   have hlb:=leaveAt_bd h (k:=L.length - 1) (by omega)
   have hsb:=sumTo_bd h L.length (Nat.le_refl _)
   have hib:=idleTo_bd h L.length (Nat.le_refl _)
   have HI:=Lib.hid hid;clear hid
   have H:=Lib.hid h;clear h
   have k1:(0:Int)<=(L.length:Int) - 1:=by omega
   have k2:(L.length:Int) - 1 < (L.length:Int):=by omega
   go_enter Tryz.func172,Tryz.ntmps172
   go_wp2_with fail
   refine (c_iCustomersOk L A c _ hA hn).mono ?_
   rintro e w1 ⟨rfl,hb1⟩
   rw [H.out]
   have hs1:=hb1.size
   have hA1:=(hA.below hb1).more hs1
   go_wp2_with fail
   have q6:((L.length:Int) - 1).toNat=L.length - 1:=by omega
   have q7:IntKind.i64.wrap (leaveAt L (L.length - 1) - sumTo L L.length)=leaveAt L (L.length - 1) - sumTo L L.length:=IntWalk.i64_in _ (by omega)
   have q8:IntKind.i64.wrap ((L.length:Int) - 1)=(L.length:Int) - 1:=IntWalk.i64_in _ (by omega)
   have hd:Below w1.heap.size w1 w1.drew:=(Below.refl _ _).drew
   have HLn:=Lib.hid (show (leaves L).length=L.length by rw [HL.out,leavesTo_len])
   go_region_with (first
    | (go_at_call 170
       first
        | (refine (c_iNeedOf L A c _ ((hA1.below hk5).more hk5.size) hn).mono ?_
           rintro e w6 ⟨rfl,hb6⟩
           rw [HN.out]
           have hk6:=hk5.trans (hb6.mono hk5.size)
           have c6:=(hb6.cell (p:=⟨gb,L.length - 1,none⟩) hgb).trans c5)
        | (refine (c_iNeedOf L A c _ ((hA1.below hd).more hd.size) hn).mono ?_
           rintro e w5 ⟨rfl,hb5⟩
           rw [HN.out]
           have hk5:=hd.trans (hb5.mono hd.size)))
    | (go_at_call 164
       first
        | (refine (c_iLeavesOf L A c _ ((hA1.below hk5).more hk5.size) hn).mono ?_
           rintro e w6 ⟨v6,rfl,o6,hb6⟩
           obtain ⟨G,g,rfl,-,hG⟩:=o6.formG
           rw [HLn.out] at hG ⊢
           obtain ⟨gb,rfl,-,hgb,hgc⟩:=hG (by omega)
           have c6:=hgc (L.length - 1) (by omega)
           rw [HL.out,Z_leavesTo (by omega)] at c6
           have hk6:=hk5.trans (hb6.mono hk5.size)
           clear hG hgc o6)
        | (refine (c_iLeavesOf L A c _ ((hA1.below hd).more hd.size) hn).mono ?_
           rintro e w5 ⟨v5,rfl,o5,hb5⟩
           obtain ⟨G,g,rfl,-,hG⟩:=o5.formG
           rw [HLn.out] at hG ⊢
           obtain ⟨gb,rfl,-,hgb,hgc⟩:=hG (by omega)
           have c5:=hgc (L.length - 1) (by omega)
           rw [HL.out,Z_leavesTo (by omega)] at c5
           have hk5:=hd.trans (hb5.mono hd.size)
           clear hG hgc o5)))
   all_goals
    clear q6 q7 q8
    go_wp2_with fail
    go_ret
    exact ⟨by rw [HV.out,<- HI.out];rfl,hb1.trans (hk6.mono hs1)⟩
 ·have hno:cOk L=false:=by simpa using h
  have HV:=Lib.hid (idleV_no hno)
  have H:=Lib.hid hno;clear h hno
  go_enter Tryz.func172,Tryz.ntmps172
  go_wp2_with fail
  refine (c_iCustomersOk L A c _ hA hn).mono ?_
  rintro e w1 ⟨rfl,hb1⟩
  rw [H.out]
  go_wp2_with fail
  go_ret
  exact ⟨by rw [HV.out];rfl,hb1⟩
theorem c_sIdleUntil (L:List (Int×Int)) (A:Option Addr) (c:Nat) (w:World) (hA:Cs w w.heap.size A L) (hn:L.length<=140737488351232) :
  Calls Tryz.prog 74 #[.slice A L.length c] w fun e w'=>e=.returned (.int .i64 (idleV L))∧Below w.heap.size w w':=by
 by_cases h:cOk L=true
 ·have HV:=Lib.hid (idleV_yes h)
  have hlen:=cOk_len h
  have HL:=Lib.hid (leaves_yes h)
  have HLn:=Lib.hid (show (leaves L).length=L.length by rw [HL.out,leavesTo_len])
  by_cases h0:L.length=0
  ·have h0b:((L.length:Int) == 0)=true:=beq_iff_eq.2 (by omega)
   have H:=Lib.hid h;clear h
   have H0:=Lib.hid h0;clear h0
   go_enter Tryz.func74,Tryz.ntmps74
   go_wp2_with fail
   refine (c_sCustomersOk L A c _ hA hn).mono ?_
   rintro e w1 ⟨rfl,hb1⟩
   rw [H.out]
   have hs1:=hb1.size
   go_wp2_with fail
   refine (c_sLeavesOf L A c _ ((hA.below hb1).more hs1) hn).mono ?_
   rintro e w2 ⟨v2,rfl,o2,hb2⟩
   obtain ⟨G,g,rfl,-,-⟩:=o2.formG
   rw [HLn.out]
   go_wp2_with fail
   go_ret
   exact ⟨by rw [HV.out,H0.out];rfl,hb1.trans (hb2.mono hs1)⟩
  ·have h0b:((L.length:Int) == 0)=false:=beq_eq_false_iff_ne.2 (by omega)
   have HN:=Lib.hid (show needOf L=sumTo L L.length by simp [needOf,h])
   have hid:=idle_leave h (n:=L.length - 1) (by omega)
   have hlb:=leaveAt_bd h (k:=L.length - 1) (by omega)
   have hsb:=sumTo_bd h L.length (Nat.le_refl _)
   have hib:=idleTo_bd h L.length (Nat.le_refl _)
   have HI:=Lib.hid hid;clear hid
   have H:=Lib.hid h;clear h
   have k1:(0:Int)<=(L.length:Int) - 1:=by omega
   have k2:(L.length:Int) - 1 < (L.length:Int):=by omega
   go_enter Tryz.func74,Tryz.ntmps74
   go_wp2_with fail
   refine (c_sCustomersOk L A c _ hA hn).mono ?_
   rintro e w1 ⟨rfl,hb1⟩
   rw [H.out]
   have hs1:=hb1.size
   have hA1:=(hA.below hb1).more hs1
   go_wp2_with fail
   refine (c_sLeavesOf L A c _ hA1 hn).mono ?_
   rintro e w2 ⟨v2,rfl,o2,hb2⟩
   obtain ⟨G,g,rfl,-,hG⟩:=o2.formG
   rw [HLn.out] at hG ⊢
   obtain ⟨gb,rfl,-,hgb,hgc⟩:=hG (by omega)
   have c5:=hgc (L.length - 1) (by omega)
   rw [HL.out,Z_leavesTo (by omega)] at c5
   have hk2:=hb1.trans (hb2.mono hs1)
   have hs2:=hk2.size
   have hA2:=(hA1.below hb2).more hb2.size
   clear hG hgc o2 hb2
   go_wp2_with fail
   have q6:((L.length:Int) - 1).toNat=L.length - 1:=by omega
   have q7:IntKind.i64.wrap (leaveAt L (L.length - 1) - sumTo L L.length)=leaveAt L (L.length - 1) - sumTo L L.length:=IntWalk.i64_in _ (by omega)
   have q8:IntKind.i64.wrap ((L.length:Int) - 1)=(L.length:Int) - 1:=IntWalk.i64_in _ (by omega)
   have c6:=WB.cell hgb c5
   clear c5
   have K:=fun W (hW:Cs W W.heap.size A L)=>c_sNeedOf L A c W hW hn
   rw [HN.out] at K
   have HK:=Lib.hid K;clear K
   refine wp_region_wb w2.heap.size (by kernel_rfl) (by kernel_rfl) ?_
   repeat (go_big_quiet_step ((go_at_call 72;exact Calls.inB (Nat.le_refl _) (HK.out _ (WB.cs _ hA2 (Nat.le_refl _))))))
   refine wpQuiet_nil ?_
   rintro _ ⟨⟨w5,hb5⟩,rfl⟩
   clear q6 q7 q8
   go_wp2_with fail
   go_ret
   exact ⟨by rw [HV.out,<- HI.out];rfl,hk2.trans (hb5.mono hs2)⟩
 ·have hno:cOk L=false:=by simpa using h
  have HV:=Lib.hid (idleV_no hno)
  have H:=Lib.hid hno;clear h hno
  go_enter Tryz.func74,Tryz.ntmps74
  go_wp2_with fail
  refine (c_sCustomersOk L A c _ hA hn).mono ?_
  rintro e w1 ⟨rfl,hb1⟩
  rw [H.out]
  go_wp2_with fail
  go_ret
  exact ⟨by rw [HV.out];rfl,hb1⟩
end
section
attribute [local go_sem ↓] Go.wp_at_zero Go.wp_at_succ
theorem flatC_news {w:World} {b off:Nat} {L:List (Int×Int)} (h:Cells w b off L):∀ j u,(flatC L)[j]?=some u->w.cell? ((⟨b,off,none⟩:Addr).add j)=some u:=by
 intro j u hj
 have hjl:j < L.length * 2:=by have:=(List.getElem?_eq_some_iff.1 hj).1;rwa [flatC_len] at this
 have e:(⟨b,off,none⟩:Addr).add j=⟨b,off+j,none⟩:=by by_cases e:j=0 <;> simp [Addr.add,e]
 rw [e]
 have hf:=flatC_at L (j / 2) (by omega)
 have hc:=h (j / 2) (by omega)
 by_cases hp:j % 2=0
 ·have e2:j=j / 2 * 2:=by omega
  rw [e2,hf.1] at hj
  rw [e2,hc.1,<- hj]
 ·have e2:j=j / 2 * 2+1:=by omega
  rw [e2,hf.2] at hj
  rw [e2,<- Nat.add_assoc,hc.2,<- hj]
theorem flatC_one (L:List (Int×Int)):∀ u ∈ flatC L,u.oneCell'=true:=by
 intro u hu
 simp only [flatC,List.mem_flatMap] at hu
 obtain ⟨c,_,hc⟩:=hu
 simp at hc
 rcases hc with rfl | rfl <;> rfl
theorem flatC_append (L M:List (Int×Int)):flatC (L++M)=flatC L++flatC M:=by simp [flatC]
section
variable {w:World}
theorem app_CC {ops:Array Oper} {rest:List Oper} {o:Oper} {a:Act} {Q:Exit->Act->World->Prop} (hgd:o.guard=none) (s x:Operand)
  (ho:o.op=.call { callee:=.builtin .append,args:=#[s,x],argTypes:=#[28,28] })
  (base:Nat) (v:Value) (M L:List (Int×Int)) (b off c:Nat) (hs:a.eval s=v) (hown:CO w base v M) (hx:a.eval x=.slice (some ⟨b,off,none⟩) L.length c)
  (hc:Cells w b off L) (hp:0 < L.length) (hlen:M.length+L.length<=1000000000000) (hbase:base<=w.heap.size)
  (h:∀ g cap w',CO w' base (.slice (some ⟨g,0,none⟩) (M.length+L.length) cap) (M++L)->w.grownBy w' v.ownBlock->Below base w w'->wpList Tryz.prog ops Q rest (a.put o.dst (.slice (some ⟨g,0,none⟩) (M.length+L.length) cap)) w') :
  wpList Tryz.prog ops Q (o::rest) a w:=by
 obtain ⟨i0,hi,hz0,hz1,hz2⟩:=info_parts infoC
 refine wpList_append_lies w hgd s x _ ho base 100 i0 _ 2 16 Tryz.underlying28 hi hz0 hz1 hz2 rfl (by decide) v M.length _ hs hown
  ⟨b,off,none⟩ L.length c (flatC L) hx (flatC_len L) (flatC_news hc) (flatC_one L) hp (by simp only [maxLen];omega) (by omega) hbase _ rfl ?_
 intro g cap w' h1 h2 _ _
 exact h g cap w' (by simpa [CO,flatC_append] using h1) h2 ((Below.refl _ _).grown h2 hbase (owns_base hown))
end
theorem CO.store1 {w:World} {base g n c:Nat} {M:List (Int×Int)} (h:CO w base (.slice (some ⟨g,0,none⟩) n c) M) (k:Nat) (hk:k < M.length) (y:Int) :
  CO (w.setCell ⟨g,k * 2+1,none⟩ (.int .i64 y)) base (.slice (some ⟨g,0,none⟩) n c) (M.set k (X M k,y)):=by
 have hn:=h.cells.1
 subst hn
 have h2:=(World.ownsRow.stored (g:=g) (cap:=c) h (k * 2+1) (.int .i64 y)).1
 unfold CO
 rw [flatC_set,List.length_set]
 have e:(flatC M).set (k * 2) (.int .i64 (X M k))=flatC M:=by
  have:=(flatC_at M k hk).1
  apply List.ext_getElem?
  intro i
  rw [List.getElem?_set]
  split
  ·rename_i e;subst e
   split
   ·exact this.symm
   ·rename_i e2;rw [flatC_len] at e2;omega
  ·rfl
 rw [e]
 exact h2
theorem c_clone (L:List (Int×Int)) (A:Option Addr) (c:Nat) (w:World) (hA:Cs w w.heap.size A L) (hp:0 < L.length) (hn:L.length<=1048576) :
  Calls Tryz.prog 104 #[.slice A L.length c] w fun e w'=>∃ g cap,e=.returned (.slice (some ⟨g,0,none⟩) L.length cap)∧CO w' w.heap.size (.slice (some ⟨g,0,none⟩) L.length cap) L∧Below w.heap.size w w':=by
 obtain ⟨b,off,rfl,hlb,hc⟩:=hA hp
 have hb0:Below w.heap.size w (w.alloc (.cells #[] 100)):=by (repeat (first | exact rfl | exact Below.refl _ _ | (with_reducible refine Below.drew ?_) | (with_reducible refine Below.drewN ?_ _) | (with_reducible refine Below.alloc ?_ ?_ _) | (with_reducible refine Below.setCell ?_ ?_ _) | (show _<=_;focus (first | omega | (simp;done) | (simp;omega)))))
 have hc0:Cells (w.alloc (.cells #[] 100)) b off L:=fun k hk=>⟨(hb0.cell (p:=⟨b,_,none⟩) hlb).trans (hc k hk).1,(hb0.cell (p:=⟨b,_,none⟩) hlb).trans (hc k hk).2⟩
 have HC:=Lib.hid hc0
 clear hc hc0
 have hnil:=Lib.run_eql_slice_nil (P:=Tryz.prog) w 28 100 (some ⟨b,off,none⟩) L.length c 0 0 Tryz.underlying28
 go_enter Tryz.func104,Tryz.ntmps104
 go_wp2_with (refine app_CC ?_ (.tmp 5) (.tmp 6) ?_ w.heap.size (.slice (some ⟨w.heap.size,0,none⟩) 0 0) [] L b off c ?_ ?_ ?_ ?_ ?_ ?_ ?_ ?_;rfl;rfl;rfl;exact (CO.empty w (Nat.le_refl _));rfl;exact HC.out;exact hp;(simp;omega);(simp);intro g7 cap w7 hown7 hgr7 hb7)
 go_ret
 rw [List.length_nil,Nat.zero_add] at *
 exact ⟨g7,cap,rfl,hown7,Below.trans hb0 hb7⟩
theorem moreOk_yes {L:List (Int×Int)} {n:Nat} (h:placeOk L n=true) (hq:cOk (moreL L n)=true):moreOk L (n:Int)=true:=by simp [moreOk,h,hq]
theorem moreOk_no {L:List (Int×Int)} {n:Nat} (hq:cOk (moreL L n)=false):moreOk L (n:Int)=false:=by simp [moreOk,hq]
theorem moreOk_no' {L:List (Int×Int)} {t:Int} (h:placeOk L t=false):moreOk L t=false:=by simp [moreOk,h]
theorem c_iNeedingMore (L:List (Int×Int)) (A:Option Addr) (c:Nat) (t:Int) (w:World) (hA:Cs w w.heap.size A L) (hn:L.length<=140737488351232) :
  Calls Tryz.prog 146 #[.slice A L.length c,.int .i64 t] w fun e w'=>∃ v,e=.returned (laterV v (moreOk L t))∧CO w' w.heap.size v (moreR L t)∧Below w.heap.size w w':=by
 by_cases hp:placeOk L t=true
 ·obtain ⟨n,rfl,hnl,h⟩:=placeOk_nat hp
  have ht':decide ((0:Int)<=(n:Int)∧(n:Int)<=(L.length:Int) - 1)=true:=by simp;omega
  have hlen:=cOk_len h
  have bd:=cOk_bd h hnl
  have HP:=Lib.hid hp
  have H:=Lib.hid h;clear h hp
  have k1:(0:Int)<=(n:Int):=by omega
  have k2:(n:Int) < (L.length:Int):=by omega
  go_enter Tryz.func146,Tryz.ntmps146
  go_wp2_with fail
  refine (c_iCustomersOk L A c _ hA hn).mono ?_
  rintro e w1 ⟨rfl,hb1⟩
  rw [H.out]
  go_wp2_with fail
  refine (c_isPlace L A c _ _ hn).mono ?_
  rintro e w' ⟨rfl,rfl⟩
  rw [ht']
  clear ht'
  have hs1:=hb1.size
  go_wp2_with fail
  refine (c_clone L A c _ ((hA.below hb1).more hs1) (by omega) (by omega)).mono ?_
  rintro e w2 ⟨g,d,rfl,o2,hb2⟩
  obtain ⟨-,hcl,hfz⟩:=o2.cells
  have c1:=(hcl n hnl).2
  have f1:=hfz (n * 2+1)
  clear hcl hfz
  have hg:=owns_base o2 g (by simp [Value.ownBlock])
  have hs2:=hb2.size
  have o3:=o2.store1 n hnl (Y L n+1)
  have hb3:Below w.heap.size w (w2.setCell ⟨g,n * 2+1,none⟩ (.int .i64 (Y L n+1))):=(hb1.trans (hb2.mono hs1)).setCell (p:=⟨g,n * 2+1,none⟩) (by show w.heap.size<=g;omega) _
  have hz3:(w2.setCell ⟨g,n * 2+1,none⟩ (.int .i64 (Y L n+1))).heap.size=w2.heap.size:=by simp [World.setCell]
  have hI:=o3.isOf.2
  have K:=c_iCustomersOk (moreL L n) (some ⟨g,0,none⟩) d (w2.setCell ⟨g,n * 2+1,none⟩ (.int .i64 (Y L n+1))) hI (by rw [moreL_len];omega)
  rw [moreL_len] at K
  have HK:=Lib.hid K
  have HB3:=Lib.hid hb3;have HO3:=Lib.hid o3;have HZ3:=Lib.hid hz3
  clear K hI hb3 o3 hz3 o2 hb2
  go_wp2_with fail
  refine HK.out.mono ?_
  rintro e w4 ⟨rfl,hb4⟩
  have hb5:=HB3.out.trans (hb4.mono (by rw [HZ3.out];omega))
  by_cases hq:cOk (moreL L n)=true
  ·have HQ:=Lib.hid hq;clear hq
   have HM:=Lib.hid (moreOk_yes HP.out HQ.out)
   rw [HQ.out]
   go_wp2_with fail
   go_ret2
   refine ⟨.slice (some ⟨g,0,none⟩) L.length d,?_,?_,hb5⟩
   ·rw [HM.out];rfl
   ·rw [moreR_yes HM.out];exact (HO3.out.below hb4 (Nat.le_refl _)).mono hs1
  ·have hq':cOk (moreL L n)=false:=by simpa using hq
   have HQ:=Lib.hid hq';clear hq hq'
   have HM:=Lib.hid (moreOk_no HQ.out)
   rw [HQ.out]
   go_wp2_with fail
   go_ret2
   refine ⟨.slice none 0 0,?_,?_,hb5⟩
   ·rw [HM.out];rfl
   ·rw [moreR_no HM.out];exact CO.nil _ _
 ·have hpn:placeOk L t=false:=by simpa using hp
  have HM:=Lib.hid (moreOk_no' hpn)
  by_cases h:cOk L=true
  ·have ht':decide (0<=t∧t<=(L.length:Int) - 1)=false:=by simpa [placeOk,h] using hpn
   have H:=Lib.hid h;clear h hp hpn
   go_enter Tryz.func146,Tryz.ntmps146
   go_wp2_with fail
   refine (c_iCustomersOk L A c _ hA hn).mono ?_
   rintro e w1 ⟨rfl,hb1⟩
   rw [H.out]
   go_wp2_with fail
   refine (c_isPlace L A c _ _ hn).mono ?_
   rintro e w' ⟨rfl,rfl⟩
   rw [ht']
   clear ht'
   go_wp2_with fail
   go_ret2
   refine ⟨.slice none 0 0,?_,?_,hb1⟩
   ·rw [HM.out];rfl
   ·rw [moreR_no HM.out];exact CO.nil _ _
  ·have hno:cOk L=false:=by simpa using h
   have H:=Lib.hid hno;clear h hno hp hpn
   go_enter Tryz.func146,Tryz.ntmps146
   go_wp2_with fail
   refine (c_iCustomersOk L A c _ hA hn).mono ?_
   rintro e w1 ⟨rfl,hb1⟩
   rw [H.out]
   go_wp2_with fail
   go_ret2
   refine ⟨.slice none 0 0,?_,?_,hb1⟩
   ·rw [HM.out];rfl
   ·rw [moreR_no HM.out];exact CO.nil _ _
theorem c_sNeedingMore (L:List (Int×Int)) (A:Option Addr) (c:Nat) (t:Int) (w:World) (hA:Cs w w.heap.size A L) (hn:L.length<=140737488351232) :
  Calls Tryz.prog 152 #[.slice A L.length c,.int .i64 t] w fun e w'=>∃ v,e=.returned (laterV v (moreOk L t))∧CO w' w.heap.size v (moreR L t)∧Below w.heap.size w w':=by
 by_cases hp:placeOk L t=true
 ·obtain ⟨n,rfl,hnl,h⟩:=placeOk_nat hp
  have ht':decide ((0:Int)<=(n:Int)∧(n:Int)<=(L.length:Int) - 1)=true:=by simp;omega
  have hlen:=cOk_len h
  have bd:=cOk_bd h hnl
  have HP:=Lib.hid hp
  have H:=Lib.hid h;clear h hp
  have k1:(0:Int)<=(n:Int):=by omega
  have k2:(n:Int) < (L.length:Int):=by omega
  go_enter Tryz.func152,Tryz.ntmps152
  go_wp2_with fail
  refine (c_sCustomersOk L A c _ hA hn).mono ?_
  rintro e w1 ⟨rfl,hb1⟩
  rw [H.out]
  go_wp2_with fail
  refine (c_l1In _ _ _ _).mono ?_
  rintro e w' ⟨rfl,rfl⟩
  rw [ht']
  clear ht'
  have hs1:=hb1.size
  obtain ⟨b,off,rfl,hlb,hc⟩:=(hA.below hb1) (by omega)
  have hb0:Below w'.heap.size w' (w'.alloc (.cells #[] 100)):=by (repeat (first | exact rfl | exact Below.refl _ _ | (with_reducible refine Below.drew ?_) | (with_reducible refine Below.drewN ?_ _) | (with_reducible refine Below.alloc ?_ ?_ _) | (with_reducible refine Below.setCell ?_ ?_ _) | (show _<=_;focus (first | omega | (simp;done) | (simp;omega)))))
  have hc0:Cells (w'.alloc (.cells #[] 100)) b off L:=fun k hk=>⟨(hb0.cell (p:=⟨b,_,none⟩) (by show b < _;omega)).trans (hc k hk).1,(hb0.cell (p:=⟨b,_,none⟩) (by show b < _;omega)).trans (hc k hk).2⟩
  have HC:=Lib.hid hc0
  have HB0:=Lib.hid hb0
  clear hc hc0 hb0
  go_wp2_with (refine app_CC ?_ (.tmp 19) (.tmp 20) ?_ w'.heap.size (.slice (some ⟨w'.heap.size,0,none⟩) 0 0) [] L b off c ?_ ?_ ?_ ?_ ?_ ?_ ?_ ?_;rfl;rfl;rfl;exact (CO.empty w' (Nat.le_refl _));rfl;exact HC.out;omega;(simp;omega);(simp);intro g d w2 hown7 hgr7 hb7)
  rw [List.length_nil,Nat.zero_add,List.nil_append] at hown7
  have hw2:=HB0.out.trans hb7
  have hs2:=hw2.size
  obtain ⟨-,hcl,hfz⟩:=hown7.cells
  have hg:=owns_base hown7 g (by simp [Value.ownBlock])
  have hg2:=owns_lt hown7 g (by simp [Value.ownBlock])
  have c1:=WB.cell (w:=w2) hg2 (hcl n hnl).1
  have c2:=WB.cell (w:=w2) hg2 (hcl n hnl).2
  have q7:IntKind.i64.wrap (Y L n+1)=Y L n+1:=IntWalk.i64_in _ (by omega)
  clear hcl hfz hb7 HB0 HC hgr7
  refine wp_region_wb_tail w2.heap.size 15 (by kernel_rfl) (by kernel_rfl) ?_
  simp only [List.take_succ_cons,List.take_zero,List.drop_succ_cons,List.drop_zero]
  repeat (go_big_quiet_step (fail))
  refine wpQuiet_nil ?_
  rintro _ ⟨⟨w5,hb5⟩,rfl⟩
  have o5:=hown7.below hb5 (Nat.le_refl _)
  obtain ⟨-,hcl,hfz⟩:=o5.cells
  have d1:=(hcl n hnl).1
  have d2:=(hcl n hnl).2
  have f1:=hfz (n * 2)
  have f2:=hfz (n * 2+1)
  have hs5:=hb5.size
  have o6:=o5.store n (X L n) (Y L n+1)
  clear hcl hfz c1 c2 q7 hown7
  rename_i w5
  have hb6:Below w.heap.size w ((w5.setCell ⟨g,n * 2,none⟩ (.int .i64 (X L n))).setCell ⟨g,n * 2+1,none⟩ (.int .i64 (Y L n+1))) :=
   (((hb1.trans (hw2.mono hs1)).trans (hb5.mono (by omega))).setCell (p:=⟨g,n * 2,none⟩) (by show w.heap.size<=g;omega) _).setCell (p:=⟨g,n * 2+1,none⟩) (by show w.heap.size<=g;omega) _
  have hz6:((w5.setCell ⟨g,n * 2,none⟩ (.int .i64 (X L n))).setCell ⟨g,n * 2+1,none⟩ (.int .i64 (Y L n+1))).heap.size=w5.heap.size:=by simp [World.setCell]
  have hI:=o6.isOf.2
  have K:=c_sCustomersOk (moreL L n) (some ⟨g,0,none⟩) d _ hI (by rw [moreL_len];omega)
  rw [moreL_len] at K
  have HK:=Lib.hid K
  have HB6:=Lib.hid hb6;have HO6:=Lib.hid o6;have HZ6:=Lib.hid hz6
  clear K hI hb6 o6 hz6 o5 hb5
  go_wp2_with fail
  refine HK.out.mono ?_
  rintro e w7 ⟨rfl,hb7⟩
  have hb8:=HB6.out.trans (hb7.mono (by rw [HZ6.out];omega))
  have hs8:=hb8.size
  by_cases hq:cOk (moreL L n)=true
  ·have HQ:=Lib.hid hq;clear hq
   have HM:=Lib.hid (moreOk_yes HP.out HQ.out)
   rw [HQ.out]
   go_wp2_with fail
   go_ret2
   refine ⟨.slice (some ⟨g,0,none⟩) L.length d,?_,?_,hb8⟩
   ·rw [HM.out];rfl
   ·rw [moreR_yes HM.out];exact (HO6.out.below hb7 (Nat.le_refl _)).mono hs1
  ·have hq':cOk (moreL L n)=false:=by simpa using hq
   have HQ:=Lib.hid hq';clear hq hq'
   have HM:=Lib.hid (moreOk_no HQ.out)
   rw [HQ.out]
   go_wp2_with fail
   go_ret2
   refine ⟨.slice (some ⟨w7.heap.size,0,none⟩) 0 0,?_,?_,by (repeat (first | exact hb8 | exact Below.refl _ _ | (with_reducible refine Below.drew ?_) | (with_reducible refine Below.drewN ?_ _) | (with_reducible refine Below.alloc ?_ ?_ _) | (with_reducible refine Below.setCell ?_ ?_ _) | (show _<=_;focus (first | omega | (simp;done) | (simp;omega)))))⟩
   ·rw [HM.out];rfl
   ·rw [moreR_no HM.out];exact CO.empty _ hs8
 ·have hpn:placeOk L t=false:=by simpa using hp
  have HM:=Lib.hid (moreOk_no' hpn)
  by_cases h:cOk L=true
  ·have ht':decide (0<=t∧t<=(L.length:Int) - 1)=false:=by simpa [placeOk,h] using hpn
   have H:=Lib.hid h;clear h hp hpn
   go_enter Tryz.func152,Tryz.ntmps152
   go_wp2_with fail
   refine (c_sCustomersOk L A c _ hA hn).mono ?_
   rintro e w1 ⟨rfl,hb1⟩
   rw [H.out]
   go_wp2_with fail
   refine (c_l1In _ _ _ _).mono ?_
   rintro e w' ⟨rfl,rfl⟩
   rw [ht']
   clear ht'
   go_wp2_with fail
   go_ret2
   have hs1:=hb1.size
   refine ⟨.slice (some ⟨w'.heap.size,0,none⟩) 0 0,?_,?_,by (repeat (first | exact hb1 | exact Below.refl _ _ | (with_reducible refine Below.drew ?_) | (with_reducible refine Below.drewN ?_ _) | (with_reducible refine Below.alloc ?_ ?_ _) | (with_reducible refine Below.setCell ?_ ?_ _) | (show _<=_;focus (first | omega | (simp;done) | (simp;omega)))))⟩
   ·rw [HM.out];rfl
   ·rw [moreR_no HM.out];exact CO.empty _ hs1
  ·have hno:cOk L=false:=by simpa using h
   have H:=Lib.hid hno;clear h hno hp hpn
   go_enter Tryz.func152,Tryz.ntmps152
   go_wp2_with fail
   refine (c_sCustomersOk L A c _ hA hn).mono ?_
   rintro e w1 ⟨rfl,hb1⟩
   rw [H.out]
   go_wp2_with fail
   go_ret2
   have hs1:=hb1.size
   refine ⟨.slice (some ⟨w1.heap.size,0,none⟩) 0 0,?_,?_,by (repeat (first | exact hb1 | exact Below.refl _ _ | (with_reducible refine Below.drew ?_) | (with_reducible refine Below.drewN ?_ _) | (with_reducible refine Below.alloc ?_ ?_ _) | (with_reducible refine Below.setCell ?_ ?_ _) | (show _<=_;focus (first | omega | (simp;done) | (simp;omega)))))⟩
   ·rw [HM.out];rfl
   ·rw [moreR_no HM.out];exact CO.empty _ hs1
end
section
attribute [local go_sem ↓] Go.wp_at_zero Go.wp_at_succ
theorem made_0 (L:List (Int×Int)) (a b:Int):madeV L ⟨0,a,b⟩=(L++[(a,b)],cOk (L++[(a,b)])):=by rw [madeV,if_pos rfl]
theorem made_go {L:List (Int×Int)} (h:0 < L.length):madeV L ⟨1,0,0⟩=(L.take (L.length - 1),true):=by rw [madeV,if_neg (by simp),if_pos ⟨rfl,h⟩]
theorem made_2 (L:List (Int×Int)) (a:Int):madeV L ⟨2,a,0⟩=(moreR L a,moreOk L a):=by rw [madeV,if_neg (by simp),if_neg (by simp),if_pos ⟨rfl,rfl⟩]
theorem made_3 {L:List (Int×Int)} {a:Int} (ha:0 < a) (h:0 < L.length):madeV L ⟨3,a,0⟩=(laterR L a,laterOk L a):=by rw [madeV,if_neg (by simp),if_neg (by simp),if_neg (by simp),if_pos ⟨rfl,rfl,ha,h⟩]
theorem made_no {L:List (Int×Int)} {k a b:Int} (h0:k≠0) (h1:¬ ((k=1∧a=0∧b=0)∧0 < L.length)) (h2:¬ (k=2∧b=0)) (h3:¬ (k=3∧b=0∧0 < a∧0 < L.length)):madeV L ⟨k,a,b⟩=(L,false):=by
 rw [madeV,if_neg h0,if_neg (by simpa using h1),if_neg h2,if_neg h3]
theorem heap_newK (w:World) (o p:Obj):((w.alloc o).alloc p).heap[w.heap.size+1]?=some p:=by
 have h:=heap_alloc_new (w.alloc o) p
 rwa [show (w.alloc o).heap.size=w.heap.size+1 by simp] at h
def MadeP (L:List (Int×Int)) (d:DV) (w:World) (e:Ending) (w':World):Prop :=
 ∃ v,e=.returned (.tuple #[v,.bool (madeV L d).2])∧((madeV L d).2=true->CO w' w.heap.size v (madeV L d).1)∧Below w.heap.size w w'
theorem c_sMadeCome (L:List (Int×Int)) (A:Option Addr) (c:Nat) (a b:Int) (w:World) (hA:Cs w w.heap.size A L) (hok:cOk L=true) :
  Calls Tryz.prog 117 #[.slice A L.length c,.agg #[.int .i64 0,.int .i64 a,.int .i64 b]] w (MadeP L ⟨0,a,b⟩ w):=by
 have hlen:=cOk_len hok
 have HM:=Lib.hid (made_0 L a b)
 have c0:=World.cell?_alloc_mark w #[.int .i64 0,.int .i64 a,.int .i64 b] 39 (0,0) 0
 have c1:=World.cell?_alloc_mark w #[.int .i64 0,.int .i64 a,.int .i64 b] 39 (0,0) 1
 have c2:=World.cell?_alloc_mark w #[.int .i64 0,.int .i64 a,.int .i64 b] 39 (0,0) 2
 obtain ⟨w1,hw1⟩:∃ w1,w.alloc (.cells #[.int .i64 0,.int .i64 a,.int .i64 b] 39)=w1:=⟨_,rfl⟩
 have hb1:Below w.heap.size w w1:=by rw [<- hw1];exact (Below.refl _ w).alloc (Nat.le_refl _) _
 have hz1:w.heap.size < w1.heap.size:=by rw [<- hw1];simp
 rw [hw1] at c0 c1 c2
 have HR:=Lib.hid (fun (w':World) (hb:Below w1.heap.size w1 w')=>show w'.cell? ⟨w.heap.size,1,none⟩=some (.int .i64 a)∧w'.cell? ⟨w.heap.size,2,none⟩=some (.int .i64 b) from ⟨(hb.cell (p:=⟨w.heap.size,1,none⟩) hz1).trans c1,(hb.cell (p:=⟨w.heap.size,2,none⟩) hz1).trans c2⟩)
 have hA1:=hA.below hb1
 clear hok
 go_enter Tryz.func117,Tryz.ntmps117
 go_wp2_with fail
 clear hw1
 have hd0:Below w1.heap.size w1 w1.drew:=(Below.refl _ w1).drew
 refine Code.wp_mono (Q:=fun e a' W=>e=.normal∧∃ (t11 t13 t19:Value) (g cc:Nat) ,a'={ tmps:=#[.slice A L.length c,.agg #[.int .i64 0,.int .i64 a,.int .i64 b],undef,.pointer (some ⟨w.heap.size,0,none⟩),.slice none 0 0,.bool false,.slice (some ⟨g,0,none⟩) (L.length+1) cc,.bool true,.pointer (some ⟨w.heap.size,0,none⟩),.int .i64 0,.bool true,t11,.slice A L.length c,t13,.pointer (some ⟨w.heap.size,1,none⟩),.int .i64 a,.pointer (some ⟨w.heap.size,2,none⟩),.int .i64 b,.agg #[.int .i64 a,.int .i64 b],t19,.slice (some ⟨g,0,none⟩) (L.length+1) cc,undef,undef,undef,undef,undef,undef,undef,undef,undef,undef,undef,undef,undef,undef,undef,undef,undef,undef,undef,undef,undef,undef,undef,undef,undef,undef,undef,undef,undef,undef,undef,undef,undef,undef,undef,undef,undef,undef,undef,undef,undef,undef,undef,undef,undef,undef,undef,undef,undef,undef,undef,undef,undef,undef,undef,undef,undef,undef,undef,undef],defers:=[] } ∧
  CO W w1.heap.size (.slice (some ⟨g,0,none⟩) (L.length+1) cc) (L++[(a,b)])∧Below w1.heap.size w1 W) ?imp ?reg
 case reg =>
  go_region_held3 (fun w'=>w'.cell? ⟨w.heap.size,1,none⟩=some (.int .i64 a)∧w'.cell? ⟨w.heap.size,2,none⟩=some (.int .i64 b))
   (first
     | go_keep
     | exact HR.out _ (hd0.alloc (Nat.le_refl _) _)
     | exact HR.out _ ((hd0.alloc (Nat.le_refl _) _).alloc (by simp) _)
     | exact HR.out _ hx6
     | exact HR.out _ (hx6.alloc hx6.size _)
     | exact HR.out _ hx7)
   (first
     | (refine step_KC (by rfl) (.tmp 11) (.tmp 12) (by rfl) w1.heap.size (.slice (some ⟨w1.heap.size,0,none⟩) 0 0) [] L A c w.heap.size L.length L.length (by rfl) (by first | exact CO.empty w1.drew (Nat.le_refl _) | exact (CO.empty w1.drew (Nat.le_refl _)).alloc _) (by rfl) (by rfl) (by simp) (hA1.below (by first | exact ((hd0.alloc (Nat.le_refl _) _).mono (by omega)) | exact (((hd0.alloc (Nat.le_refl _) _).alloc (by simp) _).mono (by omega)))) (by omega) (by first | (simp;done) | (simp;omega)) ?_;intro G6 c6 w6 o6 hgr6 hb6;rw [List.nil_append] at o6;have hgr6:World.grownBy _ w6 (some (w1.heap.size)):=hgr6;have hx6:Below w1.heap.size w1 w6:=(by first | exact (hd0.alloc (Nat.le_refl _) _).trans hb6 | exact ((hd0.alloc (Nat.le_refl _) _).alloc (by simp) _).trans hb6))
     | (refine step_KC (by rfl) (.tmp 11) (.tmp 12) (by rfl) w1.heap.size (.slice (some ⟨w1.heap.size+1,0,none⟩) 0 0) [] L A c w.heap.size L.length L.length (by rfl) (by have K:=CO.empty (w1.drew.alloc (.cells #[.int .i64 a,.int .i64 b] 100)) (base:=w1.heap.size) (by simp);rw [World.size_alloc] at K;exact K) (by rfl) (by rfl) (by simp) (hA1.below (by first | exact ((hd0.alloc (Nat.le_refl _) _).mono (by omega)) | exact (((hd0.alloc (Nat.le_refl _) _).alloc (by simp) _).mono (by omega)))) (by omega) (by first | (simp;done) | (simp;omega)) ?_;intro G6 c6 w6 o6 hgr6 hb6;rw [List.nil_append] at o6;have hgr6:World.grownBy _ w6 (some (w1.heap.size+1)):=hgr6;have hx6:Below w1.heap.size w1 w6:=(by first | exact (hd0.alloc (Nat.le_refl _) _).trans hb6 | exact ((hd0.alloc (Nat.le_refl _) _).alloc (by simp) _).trans hb6))
     | (refine step_C (by rfl) (.tmp 13) (.tmp 19) (by rfl) w1.heap.size (.slice G6 L.length c6) L a b w6.heap.size (by rfl) (o6.alloc _) (by rfl) (heap_alloc_new _ _) (by omega) (by have:=hx6.size;simp;omega) ?_;intro g7 c7 w7 o7 hgr7 hb7;have hx7:Below w1.heap.size w1 w7:=(hx6.alloc hx6.size _).trans hb7)
     | (refine step_C (by rfl) (.tmp 13) (.tmp 19) (by rfl) w1.heap.size (.slice G6 L.length c6) L a b (w1.heap.size+1) (by rfl) o6 (by rfl) ((hgr6.block (w1.heap.size+1) (by simp) (by simp)).trans (heap_newK w1 _ _)) (by omega) hx6.size ?_;intro g7 c7 w7 o7 hgr7 hb7;have hx7:Below w1.heap.size w1 w7:=hx6.trans hb7)
     | (refine step_C (by rfl) (.tmp 13) (.tmp 19) (by rfl) w1.heap.size (.slice G6 L.length c6) L a b w1.heap.size (by rfl) o6 (by rfl) ((hgr6.block w1.heap.size (by simp;omega) (by simp)).trans ((Below.heap_alloc _ _ _ (by simp)).trans (heap_alloc_new w1 _))) (by omega) hx6.size ?_;intro g7 c7 w7 o7 hgr7 hb7;have hx7:Below w1.heap.size w1 w7:=hx6.trans hb7))
  all_goals exact ⟨rfl,_,_,_,_,_,rfl,o7,hx7⟩
 case imp =>
  rintro e a' W2 ⟨rfl,t11,t13,t19,g,cc,rfl,o2,hx2⟩
  have hsz:=hx2.size
  have hbw:Below w.heap.size w W2:=hb1.trans (hx2.mono (by omega))
  have hcs:=o2.isOf.2
  have HC:=Lib.hid (show Calls Tryz.prog 49 #[.slice (some ⟨g,0,none⟩) (L.length+1) cc] W2 fun e w'=>e=.returned (.bool (cOk (L++[(a,b)])))∧Below W2.heap.size W2 w' from by
   have K:=c_sCustomersOk (L++[(a,b)]) (some ⟨g,0,none⟩) cc W2 hcs (by simp;omega)
   rw [List.length_append,List.length_singleton] at K
   exact K)
  clear HR c0 c1 c2 hcs
  go_wp2_with fail
  refine HC.out.mono ?_
  rintro e w3 ⟨rfl,hb3⟩
  go_wp2_with fail
  go_ret2
  refine ⟨_,by rw [HM.out];rfl,fun _=>?_,hbw.trans (hb3.mono (by omega))⟩
  rw [HM.out]
  exact (o2.below hb3 (Nat.le_refl _)).mono (by omega)
theorem c_sMade (L:List (Int×Int)) (A:Option Addr) (c:Nat) (k a b:Int) (w:World) (hA:Cs w w.heap.size A L) (hcap:L.length<=c) (hok:cOk L=true) :
  Calls Tryz.prog 117 #[.slice A L.length c,.agg #[.int .i64 k,.int .i64 a,.int .i64 b]] w (MadeP L ⟨k,a,b⟩ w):=by
 by_cases k0:k=0
 ·subst k0;exact c_sMadeCome L A c a b w hA hok
 have e0:(k == 0)=false:=beq_eq_false_iff_ne.2 k0
 have hlen:=cOk_len hok
 have c0:=World.cell?_alloc_mark w #[.int .i64 k,.int .i64 a,.int .i64 b] 39 (0,0) 0
 have c1:=World.cell?_alloc_mark w #[.int .i64 k,.int .i64 a,.int .i64 b] 39 (0,0) 1
 have c2:=World.cell?_alloc_mark w #[.int .i64 k,.int .i64 a,.int .i64 b] 39 (0,0) 2
 obtain ⟨w1,hw1⟩:∃ w1,w.alloc (.cells #[.int .i64 k,.int .i64 a,.int .i64 b] 39)=w1:=⟨_,rfl⟩
 have hb1:Below w.heap.size w w1:=by rw [<- hw1];exact (Below.refl _ w).alloc (Nat.le_refl _) _
 have hz1:w.heap.size < w1.heap.size:=by rw [<- hw1];simp
 rw [hw1] at c0 c1 c2
 have hA1:=hA.below hb1
 by_cases hgo:k=1∧a=0∧b=0
 ·obtain ⟨rfl,rfl,rfl⟩:=hgo
  by_cases hp:0 < L.length
  ·have HM:=Lib.hid (made_go hp)
   have p1:(0:Int) < (L.length:Int):=by omega
   have p2:(1:Int)<=(L.length:Int):=by omega
   have p3:(0:Int)<=(L.length:Int) - 1:=by omega
   have p4:((L.length:Int) - 1).toNat=L.length - 1:=by omega
   have p5:(L.length:Int) - 1<=(c:Int):=by omega
   have q1:IntKind.i64.wrap ((L.length:Int) - 1)=(L.length:Int) - 1:=IntWalk.i64_in _ (by omega)
   have q3:Below w1.heap.size w1 (w1.alloc (.cells #[] 100)):=(Below.refl _ w1).alloc (Nat.le_refl _) _
   have hz3:w1.heap.size < (w1.alloc (.cells #[] 100)).heap.size:=by simp
   have hN2:=(hA1.below (q3.mono (by omega))).take (L.length - 1)
   have htl:(L.take (L.length - 1)).length=L.length - 1:=by rw [List.length_take];omega
   clear hok
   go_enter Tryz.func117,Tryz.ntmps117
   go_wp2_with (refine app_KC ?_ (.tmp 33) (.tmp 38) ?_ w1.heap.size (.slice (some ⟨w1.heap.size,0,none⟩) 0 0) [] (L.take (L.length - 1)) A c w.heap.size (L.length - 1) (L.length - 1) ?_ ?_ ?_ ?_ ?_ ?_ ?_ ?_ ?_;rfl;rfl;rfl;exact (CO.empty w1 (Nat.le_refl _));rfl;exact htl;(simp);exact hN2;omega;exact (Nat.le_of_lt hz3);intro G2 c2' w2 o2 hgr2 hb2)
   go_ret2
   rw [List.nil_append] at o2
   exact ⟨_,by rw [HM.out];rfl,fun _=>by rw [HM.out];exact o2.mono (Nat.le_of_lt hz1),hb1.trans ((q3.trans hb2).mono (Nat.le_of_lt hz1))⟩
  ·have HM:=Lib.hid (made_no (L:=L) (k:=1) (a:=0) (b:=0) (by omega) (fun h=>hp h.2) (by omega) (by omega))
   have p1:¬ (0:Int) < (L.length:Int):=by omega
   clear hp
   clear hok
   go_enter Tryz.func117,Tryz.ntmps117
   go_wp2_with fail
   go_ret2
   refine ⟨_,by rw [HM.out];rfl,?_,hb1⟩
   intro h
   rw [HM.out] at h;cases h
 ·by_cases k2:k=2
  ·subst k2
   by_cases hb:b=0
   ·subst hb
    have HM:=Lib.hid (made_2 L a)
    clear hgo
    have HC:=Lib.hid (c_sNeedingMore L A c a w1 ((hA1).more (Nat.le_of_lt hz1)) (by omega))
    clear hok
    go_enter Tryz.func117,Tryz.ntmps117
    go_wp2_with fail
    refine HC.out.mono ?_
    rintro e w2 ⟨v,rfl,o2,hb2⟩
    simp only [laterV]
    go_wp2_with fail
    go_ret2
    exact ⟨_,by rw [HM.out];rfl,fun _=>by rw [HM.out];exact o2.mono (Nat.le_of_lt hz1),hb1.trans (hb2.mono (Nat.le_of_lt hz1))⟩
   ·have eb:(b == 0)=false:=beq_eq_false_iff_ne.2 hb
    have HM:=Lib.hid (made_no (L:=L) (k:=2) (a:=a) (b:=b) (by omega) (fun h=>hgo h.1) (by omega) (by omega))
    clear hgo
    clear hok
    go_enter Tryz.func117,Tryz.ntmps117
    go_wp2_with fail
    go_ret2
    refine ⟨_,by rw [HM.out];rfl,?_,hb1⟩
    intro h
    rw [HM.out] at h;cases h
  ·have e2:(k == 2)=false:=beq_eq_false_iff_ne.2 k2
   by_cases k3:k=3
   ·subst k3
    by_cases hb:b=0
    ·subst hb
     by_cases ha:0 < a
     ·by_cases hp:0 < L.length
      ·have HM:=Lib.hid (made_3 ha hp)
       have p1:(0:Int) < (L.length:Int):=by omega
       clear hgo
       have HC:=Lib.hid (c_sLaterBy L A c a w1 ((hA1).more (Nat.le_of_lt hz1)) (by omega))
       clear hok
       go_enter Tryz.func117,Tryz.ntmps117
       go_wp2_with fail
       refine HC.out.mono ?_
       rintro e w2 ⟨v,rfl,o2,hb2⟩
       simp only [laterV]
       go_wp2_with fail
       go_ret2
       exact ⟨_,by rw [HM.out];rfl,fun _=>by rw [HM.out];exact o2.mono (Nat.le_of_lt hz1),hb1.trans (hb2.mono (Nat.le_of_lt hz1))⟩
      ·have HM:=Lib.hid (made_no (L:=L) (k:=3) (a:=a) (b:=0) (by omega) (fun h=>hgo h.1) (by omega) (by omega))
       have p1:¬ (0:Int) < (L.length:Int):=by omega
       clear hgo
       clear hok
       go_enter Tryz.func117,Tryz.ntmps117
       go_wp2_with fail
       go_ret2
       refine ⟨_,by rw [HM.out];rfl,?_,hb1⟩
       intro h
       rw [HM.out] at h;cases h
     ·have HM:=Lib.hid (made_no (L:=L) (k:=3) (a:=a) (b:=0) (by omega) (fun h=>hgo h.1) (by omega) (by omega))
      clear hgo
      clear hok
      go_enter Tryz.func117,Tryz.ntmps117
      go_wp2_with fail
      go_ret2
      refine ⟨_,by rw [HM.out];rfl,?_,hb1⟩
      intro h
      rw [HM.out] at h;cases h
    ·have eb:(b == 0)=false:=beq_eq_false_iff_ne.2 hb
     have HM:=Lib.hid (made_no (L:=L) (k:=3) (a:=a) (b:=b) (by omega) (fun h=>hgo h.1) (by omega) (by omega))
     clear hgo
     clear hok
     go_enter Tryz.func117,Tryz.ntmps117
     go_wp2_with fail
     go_ret2
     refine ⟨_,by rw [HM.out];rfl,?_,hb1⟩
     intro h
     rw [HM.out] at h;cases h
   ·have e3:(k == 3)=false:=beq_eq_false_iff_ne.2 k3
    have HM:=Lib.hid (made_no (L:=L) (k:=k) (a:=a) (b:=b) k0 (fun h=>hgo h.1) (by omega) (by omega))
    clear hok
    go_enter Tryz.func117,Tryz.ntmps117
    go_wp2_with fail
    all_goals
     go_ret2
     refine ⟨_,by rw [HM.out];rfl,?_,hb1⟩
     intro h
     rw [HM.out] at h;cases h
end
end Go.Proofs.YthpccmkagikhjaaGreatDoor

import Derived.Test.YthpccmkagikhjaaGreatDoorQExactDeskLine2
import Derived.Test.YthpccmkagikhjaaGreatDoorQExactDeskLine4
import Derived.Test.YthpccmkagikhjaaGreatDoorQExactDeskLine5
import Derived.Test.YthpccmkagikhjaaGreatDoorQExactDeskLine7
import Derived.Test.YthpccmkagikhjaaGreatDoorQExactDeskLine11
namespace Go.Proofs.YthpccmkagikhjaaGreatDoor
set_option linter.unusedVariables false
open Go.RowKit
set_option maxRecDepth 8000
set_option maxHeartbeats 8000000
section
attribute [local go_sem ↓] Go.wp_at_zero Go.wp_at_succ
theorem c_l4Pick (L:List (Int×Int)) (lf:List Int) (A G:Option Addr) (BA BG c g:Nat) (t:Nat) (rule:Int) (w:World) (hA:Cs w BA A L) (hG:Is w BG G lf) (hlf:lf.length=L.length) (hn:L.length<=140737488351232) :
  Calls Tryz.prog 122 #[.slice A L.length c,.slice G lf.length g,.int .i64 t,.int .i64 rule] w fun e w'=>e=.returned (.int .i64 (pick L lf t rule))∧∃ m,w'=w.drewN m:=by
 have HLF:=Lib.hid hlf
 rw [hlf]
 clear hlf
 go_enter Tryz.func122,Tryz.ntmps122
 go_wp2_with fail
 go_loopw [9,10] (fun q i wr=>∃ k m:Nat,k<=L.length∧i=.int .i64 k∧q=.int .i64 (pickTo L lf t rule k)∧wr=w.drewN m) (fun _ i _=>L.length - (intOf i).toNat)
 case atStart=>exact ⟨0,0,Nat.zero_le _,rfl,rfl,rfl⟩
 case round =>
  obtain ⟨k,m,hk,rfl,rfl,rfl⟩:=hrel
  by_cases hlt:k < L.length
  ·obtain ⟨b,off,rfl,hlb,hc⟩:=hA (by omega)
   obtain ⟨gb,go,rfl,hgb,hgc⟩:=hG (by rw [HLF.out];omega)
   have c1:=(hc k hlt).1
   have c2:=hgc k (by rw [HLF.out];omega)
   have HGC:=Lib.hid hgc
   clear hc hgc
   have p1:(0:Int)<=(k:Int):=by omega
   have p2:(k:Int) < (L.length:Int):=by omega
   have hE:pickTo L lf t rule (k+1)=pickStep L lf t rule (pickTo L lf t rule k) k:=rfl
   have HE:=Lib.hid hE
   clear hE
   by_cases ha:(t:Int) < X L k
   ·have E:=Lib.hid (show pickTo L lf t rule (k+1)=pickTo L lf t rule k by rw [HE.out,pickStep,if_pos (.inl ha)])
    go_wp2_with fail
    go_roundw
    case rel=>exact ⟨k+1,m,by omega,by go_num,by rw [E.out],rfl⟩
    case measure=>simp [intOf];omega
   ·by_cases hz:Z lf k=0
    ·have hzb:(Z lf k == 0)=true:=beq_iff_eq.2 hz
     have E:=Lib.hid (show pickTo L lf t rule (k+1)=pickTo L lf t rule k by rw [HE.out,pickStep,if_pos (.inr hz)])
     clear hz
     go_wp2_with fail
     go_roundw
     case rel=>exact ⟨k+1,m,by omega,by go_num,by rw [E.out],rfl⟩
     case measure=>simp [intOf];omega
    ·have hzb:(Z lf k == 0)=false:=beq_eq_false_iff_ne.2 hz
     have hno:¬ ((t:Int) < X L k∨Z lf k=0):=fun h=>h.elim ha hz
     have HS:=Lib.hid (show pickTo L lf t rule (k+1)=_ from by rw [HE.out,pickStep,if_neg hno])
     rcases pickTo_ok L lf t rule k with ⟨e,_⟩ | ⟨p,e,hp,_,_⟩
     ·have E:=Lib.hid (show pickTo L lf t rule (k+1)=k by rw [HS.out,e,if_pos (by omega)])
      rw [e]
      clear hz hno e
      go_wp2_with fail
      go_roundw
      case rel=>exact ⟨k+1,m,by omega,by go_num,by rw [E.out],rfl⟩
      case measure=>simp [intOf];omega
     ·have c3:=HGC.out p (by rw [HLF.out];omega)
      have ep:((p:Int)).toNat=p:=by simp
      have HS2:=Lib.hid (show pickTo L lf t rule (k+1)=_ from by rw [HS.out,e,if_neg (by omega),ep])
      rw [e]
      have p3:(0:Int)<=(p:Int):=by omega
      have p4:(p:Int) < (L.length:Int):=by omega
      clear hz hno e ep
      by_cases h1:rule=1
      ·have E:=Lib.hid (show pickTo L lf t rule (k+1)=k by rw [HS2.out,if_pos h1])
       have h1b:(rule == 1)=true:=beq_iff_eq.2 h1
       clear h1
       go_wp2_with fail
       go_roundw
       case rel=>exact ⟨k+1,m,by omega,by go_num,by rw [E.out],rfl⟩
       case measure=>simp [intOf];omega
      ·have h1b:(rule == 1)=false:=beq_eq_false_iff_ne.2 h1
       have HS3:=Lib.hid (show pickTo L lf t rule (k+1)=_ from by rw [HS2.out,if_neg h1])
       by_cases h2:rule=2
       ·have h2b:(rule == 2)=true:=beq_iff_eq.2 h2
        have h3b:(rule == 3)=false:=beq_eq_false_iff_ne.2 (by omega)
        by_cases h4:Z lf k < Z lf p
        ·have E:=Lib.hid (show pickTo L lf t rule (k+1)=k by rw [HS3.out,if_pos ⟨h2,h4⟩])
         have hd:decide (Z lf k < Z lf p)=true:=decide_eq_true h4
         clear h1 h2 h4
         go_wp2_with fail
         go_quiet (fail)
         go_wp2_with fail
         go_roundw
         case rel=>exact ⟨k+1,_,by omega,by go_num,by rw [E.out],rfl⟩
         case measure=>simp [intOf];omega
        ·have E:=Lib.hid (show pickTo L lf t rule (k+1)=p by rw [HS3.out,if_neg (fun h=>h4 h.2),if_neg (by omega)])
         have hd:decide (Z lf k < Z lf p)=false:=decide_eq_false h4
         clear h1 h2 h4
         go_wp2_with fail
         go_quiet (fail)
         go_wp2_with fail
         go_quiet (fail)
         go_wp2_with fail
         go_roundw
         case rel=>exact ⟨k+1,_,by omega,by go_num,by rw [E.out],rfl⟩
         case measure=>simp [intOf];omega
       ·have h2b:(rule == 2)=false:=beq_eq_false_iff_ne.2 h2
        by_cases h3:rule=3
        ·have h3b:(rule == 3)=true:=beq_iff_eq.2 h3
         by_cases h4:Z lf p < Z lf k
         ·have E:=Lib.hid (show pickTo L lf t rule (k+1)=k by rw [HS3.out,if_neg (by omega),if_pos ⟨h3,h4⟩])
          have hd:decide (Z lf p < Z lf k)=true:=decide_eq_true h4
          clear h1 h2 h3 h4
          go_wp2_with fail
          go_quiet (fail)
          go_wp2_with fail
          go_quiet (fail)
          go_wp2_with fail
          go_roundw
          case rel=>exact ⟨k+1,_,by omega,by go_num,by rw [E.out],rfl⟩
          case measure=>simp [intOf];omega
         ·have E:=Lib.hid (show pickTo L lf t rule (k+1)=p by rw [HS3.out,if_neg (by omega),if_neg (fun h=>h4 h.2)])
          have hd:decide (Z lf p < Z lf k)=false:=decide_eq_false h4
          clear h1 h2 h3 h4
          go_wp2_with fail
          go_quiet (fail)
          go_wp2_with fail
          go_quiet (fail)
          go_wp2_with fail
          go_roundw
          case rel=>exact ⟨k+1,_,by omega,by go_num,by rw [E.out],rfl⟩
          case measure=>simp [intOf];omega
        ·have h3b:(rule == 3)=false:=beq_eq_false_iff_ne.2 h3
         have E:=Lib.hid (show pickTo L lf t rule (k+1)=p by rw [HS3.out,if_neg (by omega),if_neg (by omega)])
         clear h1 h2 h3
         go_wp2_with fail
         go_quiet (fail)
         go_wp2_with fail
         go_quiet (fail)
         go_wp2_with fail
         go_roundw
         case rel=>exact ⟨k+1,_,by omega,by go_num,by rw [E.out],rfl⟩
         case measure=>simp [intOf];omega
  ·have hlf:¬ ((k:Int) < (L.length:Int)):=by omega
   go_wp2_with fail
   go_ret
   obtain rfl:k=L.length:=by omega
   exact ⟨rfl,_,rfl⟩
end
section
attribute [local go_sem ↓] Go.wp_at_zero Go.wp_at_succ
def needsTo (L:List (Int×Int)) (k:Nat):List Int:=(needs L).take k
theorem needsTo_len {L:List (Int×Int)} {k:Nat} (h:k<=L.length):(needsTo L k).length=k:=by rw [needsTo,List.length_take,needs_len];omega
theorem needs_take_succ {L:List (Int×Int)} {k:Nat} (h:k < L.length):needsTo L (k+1)=needsTo L k++[Y L k]:=by
 unfold needsTo
 rw [List.take_succ_eq_append_getElem (by rw [needs_len];exact h)]
 congr 2
 simp [needs,Y,h]
theorem IO.mid {w w':World} {base lo hi:Nat} {v:Value} {xs:List Int} (h:IO w base v xs) (hm:Mid lo hi w w') (hr:∀ r,v.ownBlock=some r->lo < r∧r < hi):IO w' base v xs:=by
 refine ⟨h.1,?_⟩
 rcases h.2 with h2 | ⟨g,cap,cur,rfl,hgb,hh,rest⟩
 ·exact .inl h2
 ·have:=hr g (by simp [Value.ownBlock])
  exact .inr ⟨g,cap,cur,rfl,hgb,by rw [hm g this.1 this.2];exact hh,rest⟩
def byOk (L:List (Int×Int)) (r:Int):Bool:=cOk L && decide (0<=r∧r<=3)
def orderR (L:List (Int×Int)) (r:Int):List Int:=if byOk L r=true then orderTo L r (lastLeave L).toNat else []
theorem orderR_yes {L:List (Int×Int)} {r:Int} (h:byOk L r=true):orderR L r=orderTo L r (lastLeave L).toNat:=if_pos h
theorem orderR_no {L:List (Int×Int)} {r:Int} (h:byOk L r=false):orderR L r=[]:=by simp [orderR,h]
theorem c_sOrderBy (L:List (Int×Int)) (A:Option Addr) (c:Nat) (r:Int) (w:World) (hA:Cs w w.heap.size A L) (hn:L.length<=140737488351232) :
  Calls Tryz.prog 78 #[.slice A L.length c,.int .i64 r] w fun e w'=>∃ v,e=.returned v∧IO w' w.heap.size v (orderR L r)∧Below w.heap.size w w':=by
 have hb0:Below w.heap.size w (w.alloc (.cells #[] 3)):=by (repeat (first | exact rfl | exact Below.refl _ _ | (with_reducible refine Below.drew ?_) | (with_reducible refine Below.drewN ?_ _) | (with_reducible refine Below.alloc ?_ ?_ _) | (with_reducible refine Below.setCell ?_ ?_ _) | (show _<=_;focus (first | omega | (simp;done) | (simp;omega)))))
 have own0:=IO.empty w (Nat.le_refl w.heap.size)
 by_cases hp:byOk L r=true
 ·have HV:=Lib.hid (orderR_yes hp)
  obtain ⟨hok,hr⟩:cOk L=true∧decide (0<=r∧r<=3)=true:=by simpa [byOk] using hp
  obtain ⟨T,hT,hT2⟩:=lastLeave_nat hok
  have HT:=Lib.hid hT
  have HR:=Lib.hid hr
  have H:=Lib.hid hok
  have hlen:=cOk_len hok
  have HI:=Lib.hid (fun t=>ordL_inv hok r t)
  have HB0:=Lib.hid hb0
  clear hp hok hr hT hb0
  go_enter Tryz.func78,Tryz.ntmps78
  go_wp2_with fail
  refine (c_sCustomersOk L A c _ ((hA.below HB0.out).more HB0.out.size) hn).mono ?_
  rintro e w1 ⟨rfl,hb1⟩
  rw [H.out]
  have own1:=own0.below hb1 (Nat.le_refl _)
  have hbx:=HB0.out.trans (hb1.mono HB0.out.size)
  have hsx:w.heap.size < w1.heap.size:=by have:=hb1.size;simp at this;omega
  have K:=c_l1In r 0 3 w1
  rw [HR.out] at K
  have HK:=Lib.hid K
  clear K hb1 own0 HB0
  go_wp2_with fail
  refine HK.out.mono ?_
  rintro e w2 ⟨rfl,rfl⟩
  clear HK
  go_wp2_with fail
  have hbz:Below w2.heap.size w2 (w2.alloc (.cells #[] 3)):=by (repeat (first | exact rfl | exact Below.refl _ _ | (with_reducible refine Below.drew ?_) | (with_reducible refine Below.drewN ?_ _) | (with_reducible refine Below.alloc ?_ ?_ _) | (with_reducible refine Below.setCell ?_ ?_ _) | (show _<=_;focus (first | omega | (simp;done) | (simp;omega)))))
  go_loopw [6,7] (fun o i wr=>∃ k:Nat,k<=L.length∧i=.int .i64 k∧IO wr w2.heap.size o (needsTo L k)∧Below w2.heap.size w2 wr) (fun _ i _=>L.length - (intOf i).toNat)
  case atStart=>exact ⟨0,by omega,rfl,IO.empty w2 (Nat.le_refl _),hbz⟩
  case round =>
   obtain ⟨k,hk,rfl,hown,hb⟩:=hrel
   have hsz:=hb.size
   by_cases hlt:k < L.length
   ·obtain ⟨b,off,rfl,hlb,hc⟩:=hA (by omega)
    have c1:=(hb.cell (p:=⟨b,off+k * 2+1,none⟩) (by show b < _;omega)).trans ((hbx.cell (p:=⟨b,off+k * 2+1,none⟩) hlb).trans (hc k hlt).2)
    have q5:(needsTo L k).length<=1000000000000:=by rw [needsTo_len (by omega)];omega
    clear hc
    go_wp2_with (refine app_I ?_ (.tmp 27) (.tmp 33) ?_ w2.heap.size u6 (needsTo L k) (Y L k) wr.heap.size ?_ ?_ ?_ ?_ ?_ ?_ ?_;rfl;rfl;rfl;exact (hown.alloc _);rfl;exact (heap_alloc_new _ _);exact q5;exact (Nat.le_trans hsz (by simp));intro g7 cap w7 hown7 hgr7 hb7)
    go_roundw
    case rel =>
     refine ⟨k+1,by omega,by go_num,by rw [needs_take_succ hlt];exact hown7,?_⟩
     refine Below.trans ?_ hb7
     (repeat (first | exact hb | exact Below.refl _ _ | (with_reducible refine Below.drew ?_) | (with_reducible refine Below.drewN ?_ _) | (with_reducible refine Below.alloc ?_ ?_ _) | (with_reducible refine Below.setCell ?_ ?_ _) | (show _<=_;focus (first | omega | (simp;done) | (simp;omega)))))
    case measure=>simp [intOf];omega
   ·have hlf:¬ ((k:Int) < (L.length:Int)):=by omega
    have hown3:IO wr w2.heap.size u6 (ordL L r 0):=by
     have e:needsTo L k=needs L:=List.take_of_length_le (by rw [needs_len];omega)
     rw [e] at hown
     exact hown
    have hbw:=hbx.trans (hb.mono (by omega))
    have own3:=own1.below hb (Nat.le_refl _)
    have hlr:∀ rr,u6.ownBlock=some rr->w.heap.size < rr∧rr < wr.heap.size:=fun rr e=>⟨by have:=owns_base hown3 rr e;omega,owns_lt hown3 rr e⟩
    have HLR:=Lib.hid hlr
    obtain ⟨G,g,hu6,hg1,hG⟩:=hown3.formG
    have hll:(ordL L r 0).length=L.length:=needs_len L
    clear hown hb hk hlr hbz own1 hG hg1
    rw [hll] at hu6
    subst hu6
    go_wp2_with fail
    obtain ⟨w3,hw3⟩:∃ x,x=wr:=⟨_,rfl⟩
    rw [<- hw3] at hown3 own3 hbw hsz HLR ⊢
    clear hw3
    go_loopw [5,8] (fun o i wq=>∃ t:Nat,t<=T∧i=.int .i64 t∧IO wq w.heap.size o (orderTo L r t)∧Hid (Sep w.heap.size w3.heap.size o)∧IO wq w2.heap.size (.slice G L.length g) (ordL L r t)∧w3.heap.size<=wq.heap.size∧Below w.heap.size w wq) (fun _ i _=>T - (intOf i).toNat)
    case atStart=>exact ⟨0,by omega,rfl,own3,Sep.lo _ _ _ _,hown3,Nat.le_refl _,hbw⟩
    case round =>
     obtain ⟨t,ht,rfl,hown,hsep,hleft,hz,hb⟩:=hrel
     have hsq:=hb.size
     have K:=c_sLastLeave L A c wr ((hA.below hb).more hsq) hn
     rw [HT.out] at K
     have HK:=Lib.hid K
     clear K
     by_cases hlt:t < T
     ·have hpk:=(HI.out t).picks r
      have hln:=(HI.out t).len
      have hE:ordL L r (t+1)=stepL (ordL L r t) (ordW L r t):=rfl
      have hO:=orderTo_succ L r t
      have HE:=Lib.hid hE
      have HO:=Lib.hid hO
      have HP:=Lib.hid hpk
      clear hE hO hpk
      go_wp2_with fail
      refine HK.out.mono ?_
      rintro e w5 ⟨rfl,hb5⟩
      have hown5:=hown.below hb5 (Nat.le_refl _)
      have hleft5:=hleft.below hb5 (Nat.le_refl _)
      have hb6:=hb.trans (hb5.mono hsq)
      have hz5:w3.heap.size<=w5.heap.size:=Nat.le_trans hz hb5.size
      have hA5:=(hA.below hb6).more hb6.size
      have K2:=c_l4Pick L (ordL L r t) A G w5.heap.size w5.heap.size c g t r w5 hA5 hleft5.isOf.2 hln hn
      rw [hln] at K2
      have HK2:=Lib.hid K2
      clear K2 hown hleft hb5 HK hb hsq hz
      go_wp2_with fail
      refine HK2.out.mono ?_
      rintro e w6 ⟨rfl,m,rfl⟩
      have e0:pick L (ordL L r t) t r=ordW L r t:=rfl
      rw [e0]
      clear e0 HK2
      have hownq:IO (w5.drewN m) w.heap.size u5 (orderTo L r t):=hown5
      have hleftq:IO (w5.drewN m) w2.heap.size (.slice G L.length g) (ordL L r t):=hleft5
      have hbq:Below w.heap.size w (w5.drewN m):=by (repeat (first | exact hb6 | exact Below.refl _ _ | (with_reducible refine Below.drew ?_) | (with_reducible refine Below.drewN ?_ _) | (with_reducible refine Below.alloc ?_ ?_ _) | (with_reducible refine Below.setCell ?_ ?_ _) | (show _<=_;focus (first | omega | (simp;done) | (simp;omega)))))
      have hzq:w3.heap.size<=(w5.drewN m).heap.size:=hz5
      generalize w5.drewN m=wq at hownq hleftq hbq hzq ⊢
      clear hown5 hleft5 hb6 hz5 hA5
      have q5:(orderTo L r t).length<=1000000000000:=by rw [orderTo_len];omega
      have hal:Below wq.heap.size wq (wq.alloc (.cells #[.int .i64 (ordW L r t)] 3)):=(Below.refl _ _).alloc (Nat.le_refl _) _
      have HU:=Lib.hid (And.intro q5 (And.intro hbq (And.intro hzq (And.intro hal hleftq))))
      clear q5 hbq hzq hal hleftq
      rcases HP.out with ⟨e,_⟩ | ⟨p,e,hpl,hpx,hpz,_⟩
      ·have e':ordW L r t=-1:=e
       have E:=Lib.hid (show ordL L r (t+1)=ordL L r t by rw [HE.out,e'];simp [stepL])
       have EW:=Lib.hid e'
       rw [e'] at HU ⊢
       clear e e'
       go_wp2_with (refine app_IS ?_ (.tmp 46) (.tmp 48) ?_ w.heap.size u5 (orderTo L r t) (-1) wq.heap.size ?_ ?_ ?_ ?_ ?_ ?_ w.heap.size w3.heap.size wq ?_ ?_ ?_ ?_;rfl;rfl;rfl;exact (hownq.alloc _);rfl;exact (heap_alloc_new _ _);exact HU.out.1;exact (Nat.le_trans HU.out.2.1.size (by simp));exact hsep.out;exact ((Mid.refl _ _ _).below HU.out.2.2.2.1 HU.out.2.2.1);exact (Nat.le_trans HU.out.2.2.1 (by simp));intro g7 cap w7 hown7 hb70 hsep7 hmid7)
       have hz7:=hb70.size
       have hl7:=HU.out.2.2.2.2.mid hmid7 HLR.out
       go_roundw
       case rel =>
        refine ⟨t+1,by omega,by go_num,by rw [HO.out,EW.out];exact hown7,hsep7,by rw [E.out];exact hl7,?_,?_⟩
        ·have:=HU.out.2.2.1;have:=HU.out.2.2.2.1.size;omega
        ·exact (HU.out.2.1.trans (HU.out.2.2.2.1.mono HU.out.2.1.size)).trans hb70
       case measure=>simp [intOf];omega
      ·have e':ordW L r t=(p:Int):=e
       have hpL:p < L.length:=by first | exact hpl | omega
       have E:=Lib.hid (show ordL L r (t+1)=(ordL L r t).set p (Z (ordL L r t) p - 1) by rw [HE.out,e'];simp [stepL])
       have EW:=Lib.hid e'
       obtain ⟨G',g',hu6,hg1,hG⟩:=HU.out.2.2.2.2.formG
       injection hu6 with e1 e2 e3
       subst e1
       subst e3
       obtain ⟨lb,rfl,hlb1,hlb2,hlc⟩:=hG (by omega)
       rw [e'] at HU ⊢
       have rg:=(HI.out t).rng p hpL
       have bd:=cOk_bd H.out hpL
       have ez:IntKind.i64.wrap (Z (ordL L r t) p - 1)=Z (ordL L r t) p - 1:=IntWalk.i64_in _ (by omega)
       clear e e' e2 hlc
       go_wp2_with (refine app_IS ?_ (.tmp 46) (.tmp 48) ?_ w.heap.size u5 (orderTo L r t) (p:Int) wq.heap.size ?_ ?_ ?_ ?_ ?_ ?_ w.heap.size w3.heap.size wq ?_ ?_ ?_ ?_;rfl;rfl;rfl;exact (hownq.alloc _);rfl;exact (heap_alloc_new _ _);exact HU.out.1;exact (Nat.le_trans HU.out.2.1.size (by simp));exact hsep.out;exact ((Mid.refl _ _ _).below HU.out.2.2.2.1 HU.out.2.2.1);exact (Nat.le_trans HU.out.2.2.1 (by simp));intro g7 cap w7 hown7 hb70 hsep7 hmid7;have hz7:=hb70.size;have hl7:=HU.out.2.2.2.2.mid hmid7 HLR.out;have c7:=hl7.cells.2.1 p hpL;have f7:=hl7.cells.2.2 p)
       have hl8:=hl7.store p (Z (ordL L r t) p - 1)
       have hne:∀ rr,(Value.slice (some ⟨g7,0,none⟩) ((orderTo L r t).length+1) cap).ownBlock=some rr->some lb≠some rr:=fun rr e q=>by
        have h1:=hsep7 rr e
        have h2:=HLR.out lb (by simp [Value.ownBlock])
        injection q with q
        omega
       have hg8:w7.grownBy (w7.setCell ⟨lb,p,none⟩ (.int .i64 (Z (ordL L r t) p - 1))) (some lb):=⟨rfl,rfl,rfl,by simp [World.setCell],fun k _ hne=>Below.heap_setCell _ _ _ _ (fun e=>hne (by rw [e]))⟩
       have hown8:=hown7.grownR' hg8 hne
       have hb8:Below w.heap.size w (w7.setCell ⟨lb,p,none⟩ (.int .i64 (Z (ordL L r t) p - 1))):=by
        have hb9:=(HU.out.2.1.trans (HU.out.2.2.2.1.mono HU.out.2.1.size)).trans hb70
        (repeat (first | exact hb9 | exact Below.refl _ _ | (with_reducible refine Below.drew ?_) | (with_reducible refine Below.drewN ?_ _) | (with_reducible refine Below.alloc ?_ ?_ _) | (with_reducible refine Below.setCell ?_ ?_ _) | (show _<=_;focus (first | omega | (simp;done) | (simp;omega)))))
       clear hl7 hown7 hg8 hne
       go_roundw
       case rel =>
        refine ⟨t+1,by omega,by go_num,by rw [HO.out,EW.out];exact hown8,hsep7,by rw [E.out];exact hl8,?_,hb8⟩
        have:=HU.out.2.2.1;have:=HU.out.2.2.2.1.size;simp [World.setCell];omega
       case measure=>simp [intOf];omega
     ·have hlf2:¬ ((t:Int) < (T:Int)):=by omega
      go_wp2_with fail
      refine HK.out.mono ?_
      rintro e w5 ⟨rfl,hb5⟩
      go_wp2_with fail
      go_ret
      refine ⟨_,rfl,?_,hb.trans (hb5.mono hsq)⟩
      rw [HV.out,HT.out,show ((T:Int)).toNat=t by omega]
      exact hown.below hb5 (Nat.le_refl _)
 ·have hp':byOk L r=false:=by simpa using hp
  have HV:=Lib.hid (orderR_no hp')
  have HB0:=Lib.hid hb0
  by_cases hok:cOk L=true
  ·have hr:decide (0<=r∧r<=3)=false:=by simpa [byOk,hok] using hp'
   have HR:=Lib.hid hr
   have H:=Lib.hid hok
   clear hp hp' hok hr hb0
   go_enter Tryz.func78,Tryz.ntmps78
   go_wp2_with fail
   refine (c_sCustomersOk L A c _ ((hA.below HB0.out).more HB0.out.size) hn).mono ?_
   rintro e w1 ⟨rfl,hb1⟩
   rw [H.out]
   have own1:=own0.below hb1 (Nat.le_refl _)
   have hbx:=HB0.out.trans (hb1.mono HB0.out.size)
   have K:=c_l1In r 0 3 w1
   rw [HR.out] at K
   have HK:=Lib.hid K
   clear K hb1 own0 HB0
   go_wp2_with fail
   refine HK.out.mono ?_
   rintro e w2 ⟨rfl,rfl⟩
   go_wp2_with fail
   go_ret
   exact ⟨_,rfl,by rw [HV.out];exact own1,hbx⟩
  ·have H:=Lib.hid (by simpa using hok:cOk L=false)
   clear hp hp' hok hb0
   go_enter Tryz.func78,Tryz.ntmps78
   go_wp2_with fail
   refine (c_sCustomersOk L A c _ ((hA.below HB0.out).more HB0.out.size) hn).mono ?_
   rintro e w1 ⟨rfl,hb1⟩
   rw [H.out]
   have own1:=own0.below hb1 (Nat.le_refl _)
   have hbx:=HB0.out.trans (hb1.mono HB0.out.size)
   clear hb1 own0 HB0
   go_wp2_with fail
   go_ret
   exact ⟨_,rfl,by rw [HV.out];exact own1,hbx⟩
end
section
attribute [local go_sem ↓] Go.wp_at_zero Go.wp_at_succ
theorem ordOk_bad {L:List (Int×Int)} {o:List Int} {t:Nat} (ht:t < o.length) (h:cOk L=true->unitOk L o t=false):ordOk L o=false:=by
 by_cases hc:cOk L=true
 ·have h:=h hc
  have:unitsOk L o o.length=false:=by
   by_cases hu:unitsOk L o o.length=true
   ·rw [unitsOk_at _ hu t ht] at h;cases h
   ·simpa using hu
  simp [ordOk,this]
 ·simp [ordOk,hc]
theorem ordOk_left {L:List (Int×Int)} {o lf:List Int} {k:Nat} (hk:k < L.length) (hz:0 < Z lf k) (h:cOk L=true->lf=leftOf L o o.length):ordOk L o=false:=by
 by_cases hc:cOk L=true
 ·have h:=h hc
  have:noneLeft (leftOf L o o.length) L.length=false:=by
   by_cases hu:noneLeft (leftOf L o o.length) L.length=true
   ·have:=noneLeft_at _ hu k hk;rw [<- h] at this;omega
   ·simpa using hu
  simp [ordOk,this]
 ·simp [ordOk,hc]
theorem left_bd {L:List (Int×Int)} {o:List Int} {k:Nat} (hk:k < L.length):∀ t,Y L k - t<=Z (leftOf L o t) k∧Z (leftOf L o t) k<=Y L k:=by
 intro t
 induction t with
 | zero=>show Y L k - _<=Z (needs L) k∧Z (needs L) k<=Y L k;rw [needs_Z hk];omega
 | succ t ih =>
  show _<=Z (stepL (leftOf L o t) (Z o t)) k∧Z (stepL (leftOf L o t) (Z o t)) k<=_
  unfold stepL
  split
  ·by_cases hq:(Z o t).toNat < (leftOf L o t).length
   ·rw [Z_set hq]
    split
    ·rename_i e;subst e;omega
    ·omega
   ·rw [List.set_eq_of_length_le (by omega)];omega
  ·omega
theorem c_sOrderOk (L:List (Int×Int)) (o:List Int) (A O:Option Addr) (c d:Nat) (w:World) (hA:Cs w w.heap.size A L) (hO:Is w w.heap.size O o) (hn:L.length<=1000000000000) (ho:o.length<=140737488351232) :
  Calls Tryz.prog 123 #[.slice A L.length c,.slice O o.length d] w fun e w'=>e=.returned (.bool (ordOk L o))∧Below w.heap.size w w':=by
 go_enter Tryz.func123,Tryz.ntmps123
 have hbz:Below w.heap.size w (w.alloc (.cells #[] 3)):=by (repeat (first | exact rfl | exact Below.refl _ _ | (with_reducible refine Below.drew ?_) | (with_reducible refine Below.drewN ?_ _) | (with_reducible refine Below.alloc ?_ ?_ _) | (with_reducible refine Below.setCell ?_ ?_ _) | (show _<=_;focus (first | omega | (simp;done) | (simp;omega)))))
 go_wp2_with fail
 go_loopw [5,6] (fun q i wr=>∃ k:Nat,k<=L.length∧i=.int .i64 k∧IO wr w.heap.size q (needsTo L k)∧Below w.heap.size w wr) (fun _ i _=>L.length - (intOf i).toNat)
 case atStart=>exact ⟨0,by omega,rfl,IO.empty w (Nat.le_refl _),hbz⟩
 case round =>
  obtain ⟨k,hk,rfl,hown,hb⟩:=hrel
  have hsz:=hb.size
  by_cases hlt:k < L.length
  ·obtain ⟨b,off,rfl,hlb,hc⟩:=hA (by omega)
   have c1:=(hb.cell (p:=⟨b,off+k * 2+1,none⟩) hlb).trans (hc k hlt).2
   have q5:(needsTo L k).length<=1000000000000:=by rw [needsTo_len (by omega)];omega
   clear hc
   go_wp2_with (refine app_I ?_ (.tmp 17) (.tmp 23) ?_ w.heap.size u5 (needsTo L k) (Y L k) wr.heap.size ?_ ?_ ?_ ?_ ?_ ?_ ?_;rfl;rfl;rfl;exact (hown.alloc _);rfl;exact (heap_alloc_new _ _);exact q5;exact (Nat.le_trans hsz (by simp));intro g7 cap w7 hown7 hgr7 hb7)
   go_roundw
   case rel =>
    refine ⟨k+1,by omega,by go_num,by rw [needs_take_succ hlt];exact hown7,?_⟩
    refine Below.trans ?_ hb7
    (repeat (first | exact hb | exact Below.refl _ _ | (with_reducible refine Below.drew ?_) | (with_reducible refine Below.drewN ?_ _) | (with_reducible refine Below.alloc ?_ ?_ _) | (with_reducible refine Below.setCell ?_ ?_ _) | (show _<=_;focus (first | omega | (simp;done) | (simp;omega)))))
   case measure=>simp [intOf];omega
  ·have hlf:¬ ((k:Int) < (L.length:Int)):=by omega
   have hown3:IO wr w.heap.size u5 (needs L):=by
    have e:needsTo L k=needs L:=List.take_of_length_le (by rw [needs_len];omega)
    rw [e] at hown
    exact hown
   obtain ⟨G,g,hu,hg1,hG⟩:=hown3.formG
   clear hown hk hlt hbz hG hg1
   rw [needs_len] at hu
   subst hu
   go_wp2_with fail
   obtain ⟨w3,hw3⟩:∃ x,x=wr:=⟨_,rfl⟩
   rw [<- hw3] at hown3 hb ⊢
   clear hsz hw3
   go_loopw [7] (fun i wq=>∃ t:Nat,t<=o.length∧i=.int .i64 t∧(∃ lf:List Int,lf.length=L.length∧IO wq w.heap.size (.slice G L.length g) lf∧Hid (cOk L=true->lf=leftOf L o t∧unitsOk L o t=true))∧Below w.heap.size w wq) (fun i _=>o.length - (intOf i).toNat)
   case atStart=>exact ⟨0,by omega,rfl,⟨needs L,needs_len L,hown3,fun _=>⟨rfl,rfl⟩⟩,hb⟩
   case round =>
    clear hb
    obtain ⟨t,ht,rfl,⟨lf,hlen,hown,HI⟩,hb⟩:=hrel
    have hsq:=hb.size
    by_cases hlt:t < o.length
    ·obtain ⟨ob,oo,rfl,hob,hoc⟩:=hO (by omega)
     have c0:=(hb.cell (p:=⟨ob,oo+t,none⟩) hob).trans (hoc t hlt)
     have e1:IntKind.i64.wrap ((L.length:Int) - 1)=(L.length:Int) - 1:=IntWalk.i64_in _ (by omega)
     clear hoc
     have HK:=Lib.hid (fun w=>c_l1In (Z o t) (-1) ((L.length:Int) - 1) w)
     by_cases hin:-1<=Z o t∧Z o t<=(L.length:Int) - 1
     ·have HD:=Lib.hid (show decide (-1<=Z o t∧Z o t<=(L.length:Int) - 1)=true from decide_eq_true hin)
      by_cases hm:Z o t=-1
      ·rw [hm] at c0 HK HD
       have HM:=Lib.hid hm
       clear hm hin
       go_wp2_with fail
       refine (HK.out _).mono ?_
       rintro e w1 ⟨rfl,rfl⟩
       rw [HD.out]
       go_wp2_with fail
       go_roundw
       case rel =>
        refine ⟨t+1,by omega,by go_num,⟨lf,hlen,hown,fun hc=>?_⟩,hb⟩
        obtain ⟨i1,i2⟩:=HI.out hc
        refine ⟨?_,?_⟩
        ·rw [i1];simp [leftOf,stepL,HM.out]
        ·simp [unitsOk,i2,unitOk,HM.out];omega
       case measure=>simp [intOf];omega
      ·obtain ⟨p,hp⟩:∃ p:Nat,Z o t=p:=⟨(Z o t).toNat,by omega⟩
       have hpL:p < L.length:=by omega
       rw [hp] at c0 HK HD
       have HM:=Lib.hid hp
       clear hm hin hp
       obtain ⟨b,off,rfl,hlb,hc⟩:=hA (by omega)
       have c1:=(hb.cell (p:=⟨b,off+p * 2,none⟩) hlb).trans (hc p hpL).1
       clear hc
       by_cases hx:(t:Int) < X L p
       ·have HB:=Lib.hid (ordOk_bad hlt (fun _=>by simp [unitOk,HM.out];omega):ordOk L o=false)
        go_wp2_with fail
        refine (HK.out _).mono ?_
        rintro e w1 ⟨rfl,rfl⟩
        rw [HD.out]
        go_wp2_with fail
        go_ret
        exact ⟨by rw [HB.out];rfl,hb⟩
       ·obtain ⟨G',g',hu6,hg1,hG⟩:=hown.formG
        injection hu6 with e1' e2' e3'
        subst e1'
        subst e3'
        obtain ⟨lb,rfl,hlb1,hlb2,hlc⟩:=hG (by omega)
        have c2:=hown.cells.2.1 p hpL
        have f2:=hown.cells.2.2 p
        clear hlc hg1 e2'
        by_cases hz:Z lf p=0
        ·have HB:=Lib.hid (ordOk_bad hlt (fun hc=>by have i:=(HI.out hc).1;simp [unitOk,HM.out,<- i,hz]):ordOk L o=false)
         have hzb:(Z lf p == 0)=true:=beq_iff_eq.2 hz
         clear hz
         go_wp2_with fail
         refine (HK.out _).mono ?_
         rintro e w1 ⟨rfl,rfl⟩
         rw [HD.out]
         go_wp2_with fail
         go_ret
         exact ⟨by rw [HB.out];rfl,hb⟩
        ·have hzb:(Z lf p == 0)=false:=beq_eq_false_iff_ne.2 hz
         have HZ:=Lib.hid hz
         have HX:=Lib.hid hx
         obtain ⟨y,hy⟩:∃ y,IntKind.i64.wrap (Z lf p - 1)=y:=⟨_,rfl⟩
         have hown8:=hown.store p y
         have hb8:Below w.heap.size w (wr.setCell ⟨lb,p,none⟩ (.int .i64 y)):=by (repeat (first | exact hb | exact Below.refl _ _ | (with_reducible refine Below.drew ?_) | (with_reducible refine Below.drewN ?_ _) | (with_reducible refine Below.alloc ?_ ?_ _) | (with_reducible refine Below.setCell ?_ ?_ _) | (show _<=_;focus (first | omega | (simp;done) | (simp;omega)))))
         have HN:=Lib.hid (fun hc:cOk L=true=>show lf.set p y=leftOf L o (t+1)∧unitsOk L o (t+1)=true by
          obtain ⟨i1,i2⟩:=HI.out hc
          have bd:=cOk_bd hc hpL
          have lb:=left_bd (o:=o) hpL t
          have ey:y=Z lf p - 1:=by rw [<- hy,i1];exact IntWalk.i64_in _ (by omega)
          refine ⟨?_,?_⟩
          ·rw [ey,i1];simp [leftOf,stepL,HM.out]
          ·have:=HX.out
           rw [i1] at hz
           simp [unitsOk,i2,unitOk,HM.out]
           exact ⟨by omega,.inr ⟨by omega,hz⟩⟩)
         have HW:=Lib.hid (And.intro hown8 hb8)
         clear hz hown8 hb8
         go_wp2_with fail
         refine (HK.out _).mono ?_
         rintro e w1 ⟨rfl,rfl⟩
         rw [HD.out]
         go_wp2_with fail
         go_roundw
         case rel=>exact ⟨t+1,by omega,by go_num,⟨_,by rw [List.length_set];exact hlen,HW.out.1,HN.out⟩,HW.out.2⟩
         case measure=>simp [intOf];omega
     ·have HD:=Lib.hid (show decide (-1<=Z o t∧Z o t<=(L.length:Int) - 1)=false from decide_eq_false hin)
      have HB:=Lib.hid (ordOk_bad hlt (fun _=>by simp [unitOk];intro h1 h2;exact absurd ⟨h1,by omega⟩ hin):ordOk L o=false)
      clear hin
      go_wp2_with fail
      refine (HK.out _).mono ?_
      rintro e w1 ⟨rfl,rfl⟩
      rw [HD.out]
      go_wp2_with fail
      go_ret
      exact ⟨by rw [HB.out];rfl,hb⟩
    ·have hlf2:¬ ((t:Int) < (o.length:Int)):=by omega
     obtain rfl:t=o.length:=by omega
     go_wp2_with fail
     obtain ⟨w4,hw4⟩:∃ x,x=wr:=⟨_,rfl⟩
     rw [<- hw4] at hown hb ⊢
     clear hsq hw4
     go_loopw [9] (fun i wp=>∃ k:Nat,k<=L.length∧i=.int .i64 k∧Hid (cOk L=true->noneLeft (leftOf L o o.length) k=true)∧IO wp w.heap.size (.slice G L.length g) lf∧Below w.heap.size w wp) (fun i _=>L.length - (intOf i).toNat)
     case atStart=>exact ⟨0,by omega,rfl,fun _=>rfl,hown,hb⟩
     case round =>
      clear hown hb
      obtain ⟨k,hk,rfl,HQ,hown,hb⟩:=hrel
      have hsp:=hb.size
      by_cases hlt:k < L.length
      ·obtain ⟨G',g',hu6,hg1,hG⟩:=hown.formG
       injection hu6 with e1' e2' e3'
       subst e1'
       subst e3'
       obtain ⟨lb,rfl,hlb1,hlb2,hlc⟩:=hG (by omega)
       have c2:=hown.cells.2.1 k hlt
       clear hlc hg1 e2' hG
       by_cases hz:0 < Z lf k
       ·have HB:=Lib.hid (ordOk_left hlt hz (fun hc=>(HI.out hc).1):ordOk L o=false)
        go_wp2_with fail
        go_ret
        exact ⟨by rw [HB.out];rfl,hb⟩
       ·have HZ:=Lib.hid hz
        go_wp2_with fail
        go_roundw
        case rel =>
         refine ⟨k+1,by omega,by go_num,fun hc=>?_,hown,hb⟩
         have:=HZ.out
         rw [(HI.out hc).1] at this
         simp [noneLeft,HQ.out hc];omega
        case measure=>simp [intOf];omega
      ·have hlf3:¬ ((k:Int) < (L.length:Int)):=by omega
       obtain rfl:k=L.length:=by omega
       have HK:=Lib.hid (c_sCustomersOk L A c wr ((hA.below hb).more hsp) (by omega))
       by_cases hc:cOk L=true
       ·have H:=Lib.hid hc
        by_cases hl:(o.length:Int)<=200
        ·have HB:=Lib.hid (show ordOk L o=true by
          have h1:=HI.out hc
          simp [ordOk,hc,h1.2,HQ.out hc];omega)
         clear hc
         go_wp2_with fail
         refine HK.out.mono ?_
         rintro e w5 ⟨rfl,hb5⟩
         rw [H.out]
         go_wp2_with fail
         go_ret
         exact ⟨by rw [HB.out];rfl,hb.trans (hb5.mono hsp)⟩
        ·have HB:=Lib.hid (show ordOk L o=false by
          simp [ordOk,hc];omega)
         clear hc
         go_wp2_with fail
         refine HK.out.mono ?_
         rintro e w5 ⟨rfl,hb5⟩
         rw [H.out]
         go_wp2_with fail
         go_ret
         exact ⟨by rw [HB.out];show Ending.returned (.bool (decide ((o.length:Int)<=200)))=_;rw [decide_eq_false (by omega)],hb.trans (hb5.mono hsp)⟩
       ·have H:=Lib.hid (show cOk L=false by simpa using hc)
        have HB:=Lib.hid (show ordOk L o=false by simp [ordOk,H.out])
        clear hc
        go_wp2_with fail
        refine HK.out.mono ?_
        rintro e w5 ⟨rfl,hb5⟩
        rw [H.out]
        go_wp2_with fail
        go_ret
        exact ⟨by rw [HB.out];rfl,hb.trans (hb5.mono hsp)⟩
end
section
attribute [local go_sem ↓] Go.wp_at_zero Go.wp_at_succ
theorem c_sEndsOf (L:List (Int×Int)) (o:List Int) (A O:Option Addr) (c d:Nat) (w:World) (hA:Cs w w.heap.size A L) (hO:Is w w.heap.size O o) (hn:L.length<=1000000000000) (ho:o.length<=140737488351232) :
  Calls Tryz.prog 154 #[.slice A L.length c,.slice O o.length d] w fun e w'=>∃ v,e=.returned v∧IO w' w.heap.size v (ends L o)∧Below w.heap.size w w':=by
 go_enter Tryz.func154,Tryz.ntmps154
 have hbz:Below w.heap.size w (w.alloc (.cells #[] 3)):=by (repeat (first | exact rfl | exact Below.refl _ _ | (with_reducible refine Below.drew ?_) | (with_reducible refine Below.drewN ?_ _) | (with_reducible refine Below.alloc ?_ ?_ _) | (with_reducible refine Below.setCell ?_ ?_ _) | (show _<=_;focus (first | omega | (simp;done) | (simp;omega)))))
 go_wp2_with fail
 go_loopw [5,6] (fun q i wr=>∃ k:Nat,k<=L.length∧i=.int .i64 k∧(ordOk L o=true∨k=0)∧IO wr w.heap.size q (endsL L o k)∧Below w.heap.size w wr) (fun _ i _=>L.length - (intOf i).toNat)
 case atStart=>exact ⟨0,by omega,rfl,.inr rfl,IO.empty w (Nat.le_refl _),hbz⟩
 case round =>
  obtain ⟨k,hk,rfl,hor,hown,hb⟩:=hrel
  have hsz:=hb.size
  by_cases hlt:k < L.length
  ·have HK:=Lib.hid (c_sOrderOk L o A O c d wr ((hA.below hb).more hsz) ((hO.below hb).more hsz) hn ho)
   by_cases hok:ordOk L o=true
   ·have H:=Lib.hid hok
    clear hok hor
    go_wp2_with fail
    refine HK.out.mono ?_
    rintro e w5 ⟨rfl,hb5⟩
    have hown5:=hown.below hb5 (Nat.le_refl _)
    have hb6:=hb.trans (hb5.mono hsz)
    have hz6:=hb6.size
    clear HK hown hb hb5 hsz
    rw [H.out]
    go_wp2_with fail
    go_loopw [7,8] (fun q i wq=>∃ t:Nat,t<=o.length∧i=.int .i64 t∧q=.int .i64 (endTo o k t)∧wq=w5) (fun _ i _=>o.length - (intOf i).toNat)
    case atStart=>exact ⟨0,by omega,rfl,rfl,rfl⟩
    case round =>
     obtain ⟨t,ht,rfl,rfl,rfl⟩:=hrel
     by_cases hlt2:t < o.length
     ·obtain ⟨ob,oo,rfl,hob,hoc⟩:=hO (by omega)
      have c0:=(hb6.cell (p:=⟨ob,oo+t,none⟩) hob).trans (hoc t hlt2)
      clear hoc
      by_cases he:Z o t=(k:Int)
      ·have heb:(Z o t == (k:Int))=true:=beq_iff_eq.2 he
       have E:=Lib.hid (show endTo o k (t+1)=(t:Int)+1 by simp [endTo,he])
       clear he
       go_wp2_with fail
       go_roundw
       case rel=>exact ⟨t+1,by omega,by go_num,by rw [E.out],trivial⟩
       case measure=>simp [intOf];omega
      ·have heb:(Z o t == (k:Int))=false:=beq_eq_false_iff_ne.2 he
       have E:=Lib.hid (show endTo o k (t+1)=endTo o k t by simp [endTo,he])
       clear he
       go_wp2_with fail
       go_roundw
       case rel=>exact ⟨t+1,by omega,by go_num,by rw [E.out],trivial⟩
       case measure=>simp [intOf];omega
     ·have hlf2:¬ ((t:Int) < (o.length:Int)):=by omega
      obtain rfl:t=o.length:=by omega
      have q5:(endsL L o k).length<=1000000000000:=by rw [endsL_len];omega
      go_wp2_with (refine app_I ?_ (.tmp 35) (.tmp 37) ?_ w.heap.size u5 (endsL L o k) (endTo o k o.length) wr.heap.size ?_ ?_ ?_ ?_ ?_ ?_ ?_;rfl;rfl;rfl;exact (hown5.alloc _);rfl;exact (heap_alloc_new _ _);exact q5;exact (Nat.le_trans hz6 (by simp));intro g7 cap w7 hown7 hgr7 hb7)
      go_roundw
      case rel =>
       refine ⟨k+1,by omega,by go_num,.inl H.out,by rw [endsL_succ];exact hown7,?_⟩
       refine Below.trans ?_ hb7
       (repeat (first | exact hb6 | exact Below.refl _ _ | (with_reducible refine Below.drew ?_) | (with_reducible refine Below.drewN ?_ _) | (with_reducible refine Below.alloc ?_ ?_ _) | (with_reducible refine Below.setCell ?_ ?_ _) | (show _<=_;focus (first | omega | (simp;done) | (simp;omega)))))
      case measure=>simp [intOf];omega
   ·have hok':ordOk L o=false:=by simpa using hok
    have H:=Lib.hid hok'
    obtain rfl:k=0:=by rcases hor with h | h;exact absurd h hok;exact h
    clear hok hok'
    go_wp2_with fail
    refine HK.out.mono ?_
    rintro e w5 ⟨rfl,hb5⟩
    rw [H.out]
    go_wp2_with fail
    go_ret
    exact ⟨_,rfl,by rw [ends_no H.out];exact hown.below hb5 (Nat.le_refl _),hb.trans (hb5.mono hsz)⟩
  ·have hlf:¬ ((k:Int) < (L.length:Int)):=by omega
   have HE:=Lib.hid (show ends L o=endsL L o k by
    rcases hor with h | h
    ·rw [ends_yes h];congr 1;omega
    ·subst h
     have e0:L.length=0:=by omega
     unfold ends;split
     ·rw [e0]
     ·rfl)
   clear hor
   go_wp2_with fail
   go_ret
   exact ⟨_,rfl,by rw [HE.out];exact hown,hb⟩
end
section
def sOut (a:Nat->Int) (S:Nat->Bool):Nat->Int
 | 0=>0
 | j+1=>sOut a S j+(if S j=true then 0 else a j)
def sCnt (S:Nat->Bool):Nat->Nat
 | 0=>0
 | j+1=>sCnt S j+(if S j=true then 1 else 0)
def Dom (n:Nat) (a b:Nat->Int):Prop:=∀ S,∃ S',sCnt S' n<=sCnt S n∧sOut a S' n<=sOut b S n
theorem sOut_congr {a b:Nat->Int} {S:Nat->Bool}:∀ j,(∀ i,i < j->a i=b i)->sOut a S j=sOut b S j:=by
 intro j
 induction j with
 | zero=>intro _;rfl
 | succ j ih=>intro h;simp only [sOut];rw [ih (fun i hi=>h i (by omega)),h j (by omega)]
theorem sOut_nn {a:Nat->Int} {S:Nat->Bool}:∀ j,(∀ i,i < j->0<=a i)->0<=sOut a S j:=by
 intro j
 induction j with
 | zero=>intro _;exact Int.le_refl _
 | succ j ih =>
  intro h
  have:=ih (fun i hi=>h i (by omega))
  have:=h j (by omega)
  simp only [sOut];split <;> omega
theorem Dom.refl (n:Nat) (a:Nat->Int):Dom n a a:=fun S=>⟨S,Nat.le_refl _,Int.le_refl _⟩
theorem Dom.done {n:Nat} {a b b':Nat->Int} (h:Dom n a b) (ha:∀ i,i < n->a i=0) (hb':∀ i,i < n->0<=b' i):Dom n a b':=by
 intro S
 refine ⟨S,Nat.le_refl _,?_⟩
 have:=sOut_nn (a:=b') (S:=S) n hb'
 have e:sOut a S n=sOut (fun _=>0) S n:=sOut_congr n ha
 have z:∀ j,sOut (fun _=>(0:Int)) S j=0:=by intro j;induction j with | zero=>rfl | succ j ih=>simp [sOut,ih]
 rw [e,z];exact this
def posTo (a:Nat->Int):Nat->Nat
 | 0=>0
 | j+1=>posTo a j+(if 0 < a j then 1 else 0)
theorem Dom.many {n:Nat} {a b:Nat->Int} (h:Dom n a b) (ha:∀ i,i < n->0<=a i) (hb:∀ i,i < n->0<=b i):posTo a n<=posTo b n:=by
 obtain ⟨S',hc,hs⟩:=h (fun i=>decide (0 < b i))
 have e1:∀ j,sCnt (fun i=>decide (0 < b i)) j=posTo b j:=by
  intro j;induction j with | zero=>rfl | succ j ih=>simp [sCnt,posTo,ih]
 have e2:∀ j,j<=n->sOut b (fun i=>decide (0 < b i)) j=0:=by
  intro j
  induction j with
  | zero=>intro _;rfl
  | succ j ih =>
   intro hj
   have:=hb j (by omega)
   simp only [sOut,ih (by omega),decide_eq_true_eq]
   split <;> omega
 rw [e2 n (Nat.le_refl _)] at hs
 rw [e1] at hc
 have e3:∀ j,j<=n->sOut a S' j<=0->posTo a j<=sCnt S' j:=by
  intro j
  induction j with
  | zero=>intro _ _;exact Nat.le_refl _
  | succ j ih =>
   intro hj hz
   have h1:=sOut_nn (a:=a) (S:=S') j (fun i hi=>ha i (by omega))
   have h2:=ha j (by omega)
   simp only [sOut] at hz
   have i:=ih (by omega) (by split at hz <;> omega)
   simp only [posTo,sCnt]
   cases hS:S' j
   ·rw [hS] at hz
    simp at hz ⊢
    rw [if_neg (by omega)];omega
   ·simp;split <;> omega
 have:=e3 n (Nat.le_refl _) hs
 omega
end
section
theorem Dom.congr {n:Nat} {a a' b b':Nat->Int} (h:Dom n a b) (ha:∀ i,i < n->a i=a' i) (hb:∀ i,i < n->b i=b' i):Dom n a' b':=by
 intro S
 obtain ⟨S',hc,hs⟩:=h S
 exact ⟨S',hc,by rw [<- sOut_congr n ha,<- sOut_congr n hb];exact hs⟩
def tmTo (L:List (Int×Int)) (o:List Int):Nat->Int
 | 0=>0
 | k+1=>tmTo L o k+(endTo o k o.length - X L k)
theorem tmTo_bd {L:List (Int×Int)} {o:List Int} (h:ordOk L o=true):∀ j,j<=L.length->0<=tmTo L o j∧tmTo L o j<=200 * j:=by
 obtain ⟨hc,hl,_,_⟩:=ordOk_parts h
 intro j
 induction j with
 | zero=>intro _;simp [tmTo]
 | succ j ih =>
  intro hj
  have bd:=cOk_bd hc (k:=j) (by omega)
  have:=ends_need h (k:=j) (by omega)
  have:=(endTo_le o j o.length).2
  have:=ih (by omega)
  simp only [tmTo];omega
end
section
def leastV (L:List (Int×Int)):Int:=if cOk L=true then tmTo L (orderR L 2) L.length else -1
theorem leastV_yes {L:List (Int×Int)} (h:cOk L=true):leastV L=tmTo L (orderR L 2) L.length:=if_pos h
theorem leastV_no {L:List (Int×Int)} (h:cOk L=false):leastV L=-1:=by simp [leastV,h]
theorem orderR_two {L:List (Int×Int)} (h:cOk L=true) {r:Int} (hr:0<=r∧r<=3) {T:Nat} (hT:lastLeave L=T):orderR L r=orderTo L r T:=by
 rw [orderR_yes (by simp [byOk,h];omega),hT];rfl
theorem leastV_bd (L:List (Int×Int)):-1<=leastV L∧leastV L<=2000:=by
 unfold leastV
 split
 ·rename_i hc
  obtain ⟨T,hT,_⟩:=lastLeave_nat hc
  have:=tmTo_bd (orderTo_ok hc 2 hT) L.length (Nat.le_refl _)
  have:=cOk_len hc
  rw [orderR_two hc (by omega) hT];omega
 ·omega
def sumV (L:List (Int×Int)) (o:List Int):Int:=if ordOk L o=true then tmTo L o L.length else -1
theorem sumV_yes {L:List (Int×Int)} {o:List Int} (h:ordOk L o=true):sumV L o=tmTo L o L.length:=if_pos h
theorem sumV_no {L:List (Int×Int)} {o:List Int} (h:ordOk L o=false):sumV L o=-1:=by simp [sumV,h]
def timeL (L:List (Int×Int)) (o:List Int) (n:Nat):List Int:=(List.range n).map fun k=>endTo o k o.length - X L k
def timesR (L:List (Int×Int)) (o:List Int):List Int:=if ordOk L o=true then timeL L o L.length else []
theorem timesR_yes {L:List (Int×Int)} {o:List Int} (h:ordOk L o=true):timesR L o=timeL L o L.length:=if_pos h
theorem timesR_no {L:List (Int×Int)} {o:List Int} (h:ordOk L o=false):timesR L o=[]:=by simp [timesR,h]
theorem timeL_len (L:List (Int×Int)) (o:List Int) (n:Nat):(timeL L o n).length=n:=by simp [timeL]
theorem timeL_succ (L:List (Int×Int)) (o:List Int) (n:Nat):timeL L o (n+1)=timeL L o n++[endTo o n o.length - X L n]:=by simp [timeL,List.range_succ]
theorem timeL_Z {L:List (Int×Int)} {o:List Int} {n k:Nat} (h:k < n):Z (timeL L o n) k=endTo o k o.length - X L k:=by simp [Z,timeL,h]
theorem time_bd {L:List (Int×Int)} {o:List Int} (h:ordOk L o=true) {k:Nat} (hk:k < L.length):Y L k<=endTo o k o.length - X L k∧endTo o k o.length - X L k<=o.length∧o.length<=200:=by
 obtain ⟨hc,hl,_,_⟩:=ordOk_parts h
 have bd:=cOk_bd hc hk
 have:=ends_need h hk
 have:=(endTo_le o k o.length).2
 omega
end
section
attribute [local go_sem ↓] Go.wp_at_zero Go.wp_at_succ
theorem c_sTimesOf (L:List (Int×Int)) (o:List Int) (A O:Option Addr) (c d:Nat) (w:World) (hA:Cs w w.heap.size A L) (hO:Is w w.heap.size O o) (hn:L.length<=1000000000000) (ho:o.length<=140737488351232) :
  Calls Tryz.prog 119 #[.slice A L.length c,.slice O o.length d] w fun e w'=>∃ v,e=.returned v∧IO w' w.heap.size v (timesR L o)∧Below w.heap.size w w':=by
 have hbz:Below w.heap.size w (w.alloc (.cells #[] 3)):=by (repeat (first | exact rfl | exact Below.refl _ _ | (with_reducible refine Below.drew ?_) | (with_reducible refine Below.drewN ?_ _) | (with_reducible refine Below.alloc ?_ ?_ _) | (with_reducible refine Below.setCell ?_ ?_ _) | (show _<=_;focus (first | omega | (simp;done) | (simp;omega)))))
 have own0:=IO.empty w (Nat.le_refl w.heap.size)
 have HK:=Lib.hid (c_sEndsOf L o A O c d _ ((hA.below hbz).more hbz.size) ((hO.below hbz).more hbz.size) hn ho)
 by_cases hok:ordOk L o=true
 ·have HV:=Lib.hid (timesR_yes hok)
  have HE:=Lib.hid (ends_yes hok)
  have Hb:=Lib.hid (fun k (hk:k < L.length)=>time_bd hok hk)
  have Hc:=Lib.hid (fun k (hk:k < L.length)=>cOk_bd (ordOk_parts hok).1 hk)
  have hlen:=cOk_len (ordOk_parts hok).1
  clear hok
  go_enter Tryz.func119,Tryz.ntmps119
  go_wp2_with fail
  refine HK.out.mono ?_
  rintro e w1 ⟨v1,rfl,o1,hb1⟩
  rw [HE.out] at o1
  obtain ⟨G,g,rfl,-,hG⟩:=o1.formG
  rw [endsL_len] at hG ⊢
  have HG:=Lib.hid hG
  have own1:=own0.below hb1 (Nat.le_refl _)
  have hbx:=hbz.trans (hb1.mono hbz.size)
  have hsx:=hbx.size
  clear hG o1 HK own0 hbz hb1
  go_wp2_with fail
  go_loopw [5,7] (fun q i wr=>∃ k:Nat,k<=L.length∧i=.int .i64 k∧IO wr w.heap.size q (timeL L o k)∧Hid (Sep w.heap.size w1.heap.size q)∧Hid (Mid w.heap.size w1.heap.size w1 wr)∧w1.heap.size<=wr.heap.size∧Below w.heap.size w wr) (fun _ i _=>L.length - (intOf i).toNat)
  case atStart=>exact ⟨0,by omega,rfl,own1,Sep.lo _ _ _ _,Mid.refl _ _ _,Nat.le_refl _,hbx⟩
  case round =>
   obtain ⟨k,hk,rfl,hown,hsep,hmid,hz,hb⟩:=hrel
   have hsz:=hb.size
   by_cases hlt:k < L.length
   ·obtain ⟨gb,rfl,hgl,hgb,hgc⟩:=HG.out (by omega)
    obtain ⟨b,off,rfl,hlb,hc⟩:=hA (by omega)
    have c1:=(hb.cell (p:=⟨b,off+k * 2,none⟩) hlb).trans (hc k hlt).1
    have hgs:w.heap.size < gb:=by simp at hgl;omega
    have c0:=hgc k hlt
    rw [endsL_Z hlt] at c0
    have c2:=(hmid.out.cell (o:=k) hgs hgb).trans c0
    have tb:=Hb.out k hlt
    have cb:=Hc.out k hlt
    have p1:(0:Int)<=(k:Int):=by omega
    have p2:(k:Int) < (L.length:Int):=by omega
    have q7:IntKind.i64.wrap (endTo o k o.length - X L k)=endTo o k o.length - X L k:=IntWalk.i64_in _ (by omega)
    have q5:(timeL L o k).length<=1000000000000:=by rw [timeL_len];omega
    have HS:=Lib.hid (timeL_succ L o k)
    have hlw:b < wr.heap.size:=by omega
    have hal:Mid w.heap.size w1.heap.size w1 (wr.alloc (.cells #[.int .i64 (endTo o k o.length - X L k)] 3)):=hmid.out.below ((Below.refl wr.heap.size _).alloc (Nat.le_refl _) _) hz
    clear hc hgc tb cb
    go_wp2_with fail
    go_region_held3 (fun w'=>w'.cell? ⟨b,off+k * 2,none⟩=some (.int .i64 (X L k))∧w'.cell? ⟨gb,k,none⟩=some (.int .i64 (endTo o k o.length)))
     (first
       | go_keep
       | exact ⟨(hb6.cell (p:=⟨b,_,none⟩) hlb).trans ((((Below.refl _ _).alloc (Nat.le_refl _) _).cell (p:=⟨b,_,none⟩) hlw).trans c1),(hmid6.cell hgs hgb).trans c0⟩)
     ((refine step_IS (by rfl) (.tmp 18) (.tmp 29) (by rfl) w.heap.size u5 (timeL L o k) (endTo o k o.length - X L k) wr.heap.size (by rfl) ((hown.alloc _).drew) (by rfl) (heap_alloc_new _ _) q5 ?_ w.heap.size w1.heap.size w1 hsep.out hal ?_ ?_;(clear q7;simp;omega);(clear q7;simp;omega);intro g cap w6 hown6 hb6 hsep6 hmid6))
    clear q7
    have hz6:=hb6.size
    go_wp2_with fail
    go_roundw
    case rel =>
     refine ⟨k+1,by omega,by go_num,by rw [HS.out];exact hown6,hsep6,hmid6,by simp at hz6;omega,?_⟩
     refine Below.trans ?_ hb6
     (repeat (first | exact hb | exact Below.refl _ _ | (with_reducible refine Below.drew ?_) | (with_reducible refine Below.drewN ?_ _) | (with_reducible refine Below.alloc ?_ ?_ _) | (with_reducible refine Below.setCell ?_ ?_ _) | (show _<=_;focus (first | omega | (simp;done) | (simp;omega)))))
    case measure=>simp [intOf];omega
   ·have hlf:¬ ((k:Int) < (L.length:Int)):=by omega
    go_wp2_with fail
    go_ret
    refine ⟨_,rfl,?_,hb⟩
    rw [HV.out,show L.length=k by omega]
    exact hown
 ·have H:=Lib.hid (show ordOk L o=false by simpa using hok)
  have HV:=Lib.hid (timesR_no H.out)
  clear hok
  go_enter Tryz.func119,Tryz.ntmps119
  go_wp2_with fail
  refine HK.out.mono ?_
  rintro e w1 ⟨v1,rfl,o1,hb1⟩
  rw [ends_no H.out] at o1
  obtain ⟨G,g,rfl,-,-⟩:=o1.formG
  have own1:=own0.below hb1 (Nat.le_refl _)
  have hbx:=hbz.trans (hb1.mono hbz.size)
  go_wp2_with fail
  refine wp_loop_rounds 1 ?_
  rw [rounds_succ]
  go_wp2_with fail
  go_ret
  exact ⟨_,rfl,by rw [HV.out];exact own1,hbx⟩
end
section
attribute [local go_sem ↓] Go.wp_at_zero Go.wp_at_succ
def lastR (L:List (Int×Int)):List Int:=timesR L (orderR L 1)
theorem c_sLastTimes (L:List (Int×Int)) (A:Option Addr) (c:Nat) (w:World) (hA:Cs w w.heap.size A L) (hn:L.length<=1000000000000) :
  Calls Tryz.prog 69 #[.slice A L.length c] w fun e w'=>∃ v,e=.returned v∧IO w' w.heap.size v (lastR L)∧Below w.heap.size w w':=by
 have hl:(orderR L 1).length<=200:=by
  cases hp:byOk L 1 with
  | false=>rw [orderR_no hp];simp
  | true =>
   obtain ⟨hc,-⟩:cOk L=true∧decide (0<=(1:Int)∧(1:Int)<=3)=true:=by simpa [byOk] using hp
   obtain ⟨T,hT,hT2⟩:=lastLeave_nat hc
   rw [orderR_yes hp,hT,orderTo_len];omega
 go_enter Tryz.func69,Tryz.ntmps69
 go_wp2_with fail
 refine (c_sOrderBy L A c 1 w hA (by omega)).mono ?_
 rintro e w1 ⟨v1,rfl,o1,hb1⟩
 have hs1:=hb1.size
 obtain ⟨O,d,rfl,-,-,hO⟩:=o1.form
 clear o1
 go_wp2_with fail
 refine (c_sTimesOf L (orderR L 1) A O c d _ ((hA.below hb1).more hs1) hO hn (by omega)).mono ?_
 rintro e w2 ⟨v2,rfl,o2,hb2⟩
 go_wp2_with fail
 go_ret
 exact ⟨_,rfl,o2.mono hs1,hb1.trans (hb2.mono hs1)⟩
end
section
attribute [local go_sem ↓] Go.wp_at_zero Go.wp_at_succ
end
section
attribute [local go_sem ↓] Go.wp_at_zero Go.wp_at_succ
def wNone:List UInt8:=[110,111,110,101]
def rowTo (xs:List Int):Nat->List UInt8
 | 0=>[]
 | k+1=>rowTo xs k++(if 0 < k then [44] else [])++(if Z xs k < 0 then [46] else numL (Z xs k).toNat)
def rowText (xs:List Int):List UInt8:=if xs.length=0 then wNone else rowTo xs xs.length
theorem rowTo_len {xs:List Int} (h:∀ k,k < xs.length->Z xs k<=1000000000):∀ k,k<=xs.length->(rowTo xs k).length<=12 * k:=by
 intro k
 induction k with
 | zero=>intro _;simp [rowTo]
 | succ k ih =>
  intro hk
  have:=ih (by omega)
  have hz:=h k (by omega)
  have hn:(numL (Z xs k).toNat).length<=10:=numL_len 9 _ (by omega)
  simp only [rowTo,List.length_append]
  split <;> split <;> simp <;> omega
theorem c_sRow (xs:List Int) (A:Option Addr) (c:Nat) (w:World) (hI:Is w w.heap.size A xs) (hn:xs.length<=1000000) (hz:∀ k,k < xs.length->Z xs k<=1000000000) :
  Calls Tryz.prog 66 #[.slice A xs.length c] w fun e w'=>e=.returned (.string (bs (rowText xs)))∧Below w.heap.size w w':=by
 have HL:=Lib.hid (fun k hk=>rowTo_len hz k hk)
 have HZ:=Lib.hid hz
 have HK:=Lib.hid (fun (x:Int) (h0:0<=x) (h1:x<=1000000000) W=>show Calls Tryz.prog 65 #[.int .i64 x] W fun e w'=>e=.returned (.string (bs (numL x.toNat)))∧Below W.heap.size W w' from by
  have K:=c_sNumber x.toNat W (by omega)
  rwa [show ((x.toNat:Nat):Int)=x by omega] at K)
 clear hz
 go_enter Tryz.func66,Tryz.ntmps66
 go_wp2_with fail
 go_loopw [3,4] (fun s i wr=>∃ k:Nat,k<=xs.length∧i=.int .i64 (k:Int)∧s=.string (bs (rowTo xs k))∧Below w.heap.size w wr) (fun _ i _=>xs.length - (intOf i).toNat)
 case atStart=>exact ⟨0,by omega,rfl,rfl,Below.refl _ _⟩
 case round =>
  obtain ⟨k,hk,rfl,rfl,hb⟩:=hrel
  have hsz:=hb.size
  by_cases hlt:k < xs.length
  ·obtain ⟨b,off,rfl,hlb,hc⟩:=hI (by omega)
   have c0:=(hb.cell (p:=⟨b,off+k,none⟩) hlb).trans (hc k hlt)
   have p1:(0:Int)<=(k:Int):=by omega
   have p2:(k:Int) < (xs.length:Int):=by omega
   have hl:=HL.out k hk
   have hzk:=HZ.out k hlt
   have y1:¬ (9223372036854775807 < (bs (rowTo xs k)).size+1):=by rw [bs_size];omega
   have y2:¬ (9223372036854775807 < (bs (rowTo xs k)).size+1+1):=by rw [bs_size];omega
   have HS:=Lib.hid (show rowTo xs (k+1)=rowTo xs k++(if 0 < k then [44] else [])++(if Z xs k < 0 then [46] else numL (Z xs k).toNat) from rfl)
   clear hc
   by_cases h0:0 < k
   ·have p3:(0:Int) < (k:Int):=by omega
    rw [if_pos h0] at HS
    by_cases hneg:Z xs k < 0
    ·have HV:=Lib.hid (show bs (rowTo xs k)++⟨#[44]⟩++⟨#[46]⟩=bs (rowTo xs (k+1)) by rw [HS.out,if_pos hneg,<- bs_append,<- bs_append];rfl)
     clear HS hl hzk
     go_wp2_with fail
     go_roundw
     case rel=>exact ⟨k+1,by omega,by go_num,by rw [<- HV.out],hb⟩
     case measure=>simp [intOf];omega
    ·have hn1:(numL (Z xs k).toNat).length<=10:=numL_len 9 _ (by omega)
     have y3:¬ (9223372036854775807 < (bs (rowTo xs k)).size+1+(bs (numL (Z xs k).toNat)).size):=by rw [bs_size,bs_size];omega
     have HV:=Lib.hid (show bs (rowTo xs k)++⟨#[44]⟩++bs (numL (Z xs k).toNat)=bs (rowTo xs (k+1)) by rw [HS.out,if_neg hneg,<- bs_append,<- bs_append];rfl)
     have HC:=Lib.hid (HK.out (Z xs k) (by omega) hzk)
     clear HS hl hzk hn1
     go_wp2_with fail
     refine (HC.out _).mono ?_
     rintro e w5 ⟨rfl,hb5⟩
     go_wp2_with fail
     go_roundw
     case rel=>exact ⟨k+1,by omega,by go_num,by rw [<- HV.out],hb.trans (hb5.mono hsz)⟩
     case measure=>simp [intOf];omega
   ·obtain rfl:k=0:=by omega
    have p3:¬ (0:Int) < ((0:Nat):Int):=by omega
    rw [if_neg h0] at HS
    rw [Nat.add_zero] at c0
    by_cases hneg:Z xs 0 < 0
    ·have HV:=Lib.hid (show bs (rowTo xs 0)++⟨#[46]⟩=bs (rowTo xs (0+1)) by rw [HS.out,if_pos hneg,<- bs_append,<- bs_append];rfl)
     clear HS hl hzk
     go_wp2_with fail
     go_roundw
     case rel=>exact ⟨0+1,by omega,by go_num,by rw [<- HV.out],hb⟩
     case measure=>simp [intOf];omega
    ·have hn1:(numL (Z xs 0).toNat).length<=10:=numL_len 9 _ (by omega)
     have y3:¬ (9223372036854775807 < (bs (rowTo xs 0)).size+(bs (numL (Z xs 0).toNat)).size):=by rw [bs_size,bs_size];omega
     have HV:=Lib.hid (show bs (rowTo xs 0)++bs (numL (Z xs 0).toNat)=bs (rowTo xs (0+1)) by rw [HS.out,if_neg hneg,<- bs_append,<- bs_append];rfl)
     have HC:=Lib.hid (HK.out (Z xs 0) (by omega) hzk)
     clear HS hl hzk hn1
     go_wp2_with fail
     refine (HC.out _).mono ?_
     rintro e w5 ⟨rfl,hb5⟩
     go_wp2_with fail
     go_roundw
     case rel=>exact ⟨0+1,by omega,by go_num,by rw [<- HV.out],hb.trans (hb5.mono hsz)⟩
     case measure=>simp [intOf];omega
  ·have p2:¬ (k:Int) < (xs.length:Int):=by omega
   obtain rfl:k=xs.length:=by omega
   by_cases h0:xs.length=0
   ·have hq:((xs.length:Int) == 0)=true:=beq_iff_eq.2 (by omega)
    have HV:=Lib.hid (show rowText xs=wNone from if_pos h0)
    clear h0
    go_wp2_with fail
    go_ret
    exact ⟨by rw [HV.out];rfl,hb⟩
   ·have hq:((xs.length:Int) == 0)=false:=beq_eq_false_iff_ne.2 (by omega)
    have HV:=Lib.hid (show rowText xs=rowTo xs xs.length from if_neg h0)
    clear h0
    go_wp2_with fail
    go_ret
    exact ⟨by rw [HV.out];rfl,hb⟩
end
end Go.Proofs.YthpccmkagikhjaaGreatDoor

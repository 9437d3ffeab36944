import Derived.Test.YthpccmkagikhjaaGreatDoorQExactDeskLine20
import Derived.Test.YthpccmkagikhjaaGreatDoorQExactDeskLine21
namespace Go.Proofs.YthpccmkagikhjaaGreatDoor
set_option linter.unusedVariables false
set_option maxRecDepth 100000
set_option maxHeartbeats 4000000
section
open Go.RowKit Go.Shelf
attribute [local go_sem] Oper.semAt_some
theorem byTurns1_in (n:Nat) (hn:1<=n) (l Bl Bo B cap:Nat) (A:Option Addr) (L:List (Int×Int)) (hok:cOk L=true) (T:Nat) (hT:lastLeave L=T) (hcap:L.length<=cap)
  (J Jx:List Int->World->Prop) (W:World)
  (hY:∀ pre x W1,J pre W1->(pre.length < T∧x=rrW L pre.length)->YieldAt Fence.wide (n - 1) Tryz.prog l #[.int .i64 x] W1 fun e W' =>
    (e=.returned (.bool true)∧J (pre++[x]) W'∧Kq B Bo W1 W')∨(e=.returned (.bool false)∧Jx (pre++[x]) W'))
  (hJ:AbidesW W.heap.size (FrO Bo) J) (hBl:W.heap[Bl]?=some (.cells #[.slice A L.length cap] 28 (0,0)))
  (hlo:Bl≠Bo) (hBo:Bo < W.heap.size) (hfr:∀ b,¬ FrO Bo W b) (hB:B<=W.heap.size) (hc:Cs W B A L) (h0:J [] W) :
  CallsIn Fence.wide n Tryz.prog 226 #[.func (.yield l) #[] #[],.pointer (some ⟨Bl,0,none⟩)] W fun e W'=>(∃ v,e=.returned v) ∧
   ((∃ ys,ys=rrO L T∧J ys W')∨(∃ pre,True∧Jx pre W')):=by
 have hlen:=cOk_len hok
 have hT2:T<=132:=by obtain ⟨T',e,h⟩:=lastLeave_nat hok;omega
 have hll:Bl < W.heap.size:=(Array.getElem?_eq_some_iff.1 hBl).1
 have cl:W.cell? ⟨Bl,0,none⟩=some (.slice A L.length cap):=by simp [World.cell?,hBl]
 have HI:=Lib.hid (fun t=>rr_inv hok t)
 refine callsIn_of_wp Tryz.func226 rfl trivial ?_ rfl
 simp only [Tryz.ntmps226,List.size_toArray,List.length_cons,List.length_nil,Nat.reduceAdd,Nat.reduceSub,Array.replicate_succ,Array.replicate_zero,List.push_toArray,List.append_toArray,List.nil_append,List.cons_append]
 gi_wp2_with (refine ⟨trivial,?_⟩;gi_at_call 227;refine (callsIn_wide.2 (c_needsOf L A cap W (hc.more hB) (by omega))).mono ?_;rintro e w1 ⟨v,rfl,hown1,hb1⟩)
 have hg1:W.grownBy w1 none:=grown_below hb1 (Nat.le_refl _)
 obtain ⟨G,g,rfl,hg0,-⟩:=hown1.formG
 rw [needs_len] at hown1 hg0 ⊢
 have hs1:=hb1.size
 obtain ⟨w2,hw2⟩:∃ w2,w1.alloc (.cells #[.int .i64 0,.int .i64 0,.int .i64 0,.int .i64 0,.int .i64 0,.int .i64 0,.int .i64 0,.int .i64 0,.int .i64 0,.int .i64 0] 229)=w2:=⟨_,rfl⟩
 have hz2:w2.heap.size=w1.heap.size+1:=by rw [<- hw2];simp
 have hr2:RingQ w2 w1.heap.size []:=by rw [<- hw2];exact RingQ.new w1
 have hown2:IO w2 W.heap.size (.slice G L.length g) (needs L):=by rw [<- hw2];exact hown1.alloc _
 have hb2:Below W.heap.size W w2:=by rw [<- hw2];exact hb1.alloc hs1 _
 have hJ2:=hJ _ _ w2 none h0 (grown_below hb2 (Nat.le_refl _)) (fun r e=>by cases e)
 have hfr2:∀ b,¬ FrO Bo w2 b:=fun b hb=>hfr b (FrO.congr hb2 hBo hb)
 have hBl2:=(hb2.block Bl hll).trans hBl
 have hbB2:Below B W w2:=hb2.mono hB
 have HG:Hid (∀ b,(Value.slice G L.length g).ownBlock=some b->W.heap.size<=b∧b < w1.heap.size):=fun b e=>⟨owns_base hown1 b e,owns_lt hown1 b e⟩
 obtain ⟨R,hR⟩:∃ R,w1.heap.size=R:=⟨_,rfl⟩
 rw [hw2,hR]
 rw [hR] at hr2 hz2 HG
 have hWR:W.heap.size<=R:=by omega
 clear hb1 hg1 h0 hfr cl hb2 hown1 hw2 hR
 gi_loopw [4,5,7] (fun jc sv tm wr=>∃ t j:Nat,t<=T∧tm=.int .i64 t∧jc=.int .i64 j∧sv=.int .i64 (rrB L t)∧Hid (j<=L.length∧(∀ k,k < j->X L k < (t:Int))∧(∀ k,j<=k->k < L.length->(t:Int)<=X L k))∧J (rrO L t) wr ∧
   IO wr W.heap.size (.slice G L.length g) (rrLf L t)∧RingQ wr R (rrRow L t)∧Below B W wr∧R < wr.heap.size∧wr.heap[Bl]?=some (.cells #[.slice A L.length cap] 28 (0,0)) ∧
   Hid (∀ b,FrO Bo wr b->W.heap.size<=b∧(Value.slice G L.length g).ownBlock≠some b∧b≠R))
  (fun _ _ i _=>T - (intOf i).toNat)
 case atStart=>exact ⟨0,0,by omega,rfl,rfl,rfl,Lib.hid ⟨by omega,fun k hk=>by omega,fun k _ hk=>by have:=cOk_bd hok hk;omega⟩,hJ2,hown2,hr2,hbB2,by omega,hBl2,fun b hb=>absurd hb (hfr2 b)⟩
 case round =>
  clear hJ2 hown2 hr2 hbB2 hBl2 hfr2 hz2
  obtain ⟨t,j,ht,rfl,rfl,rfl,HJ,hJs,hown,hring,hbB,hsz,hl,HF⟩:=hrel
  have hln:=(HI.out t).1.len
  have KA:=c_any (rrLf L t) G wr.heap.size g wr hown.isOf.2 (by omega)
  rw [rr_any hok hT t,hln] at KA
  by_cases hlt:t < T
  ·rw [decide_eq_true hlt] at KA
   have HA:=Lib.hid KA
   clear KA
   have KN:Calls Tryz.prog 229 #[.slice G L.length g,.int .i64 (rrB L t)] wr fun e w'=>e=.returned (.bool (decide (0<=rrB L t∧0 < Z (rrLf L t) (rrB L t).toNat)))∧wr=w':=by
    have K:=c_needsMore (rrLf L t) G wr.heap.size g (rrB L t) wr hown.isOf.2 (by rw [hln];exact rrB_cases hok t) (by omega)
    rw [hln] at K
    exact K
   have HRO:=Lib.hid hring.obj
   have hcap2:L.length<=8:=hlen
   by_cases hbk:0<=rrB L t∧0 < Z (rrLf L t) (rrB L t).toNat
   focus
    rw [decide_eq_true hbk] at KN
    have HN:=Lib.hid KN
    have HGB:=Lib.hid (c_goBehind (rrRow L t) (rrB L t) R wr hring (row_lt hok rfl hbk))
    have HRK:=Lib.hid (rowK_zero (L:=L) (t:=t) rfl hbk)
    clear KN hbk
    gi_wp2_with (refine ⟨trivial,?_⟩;gi_at_call 228;refine (callsIn_wide.2 HA.out).mono ?_;rintro e w' ⟨rfl,rfl⟩)
    gi_wp2_with (refine ⟨trivial,?_⟩;gi_at_call 229;refine (callsIn_wide.2 HN.out).mono ?_;rintro e w' ⟨rfl,rfl⟩)
    gi_wp2_with (refine ⟨trivial,?_⟩;gi_at_call 230;refine (callsIn_wide.2 HGB.out).mono ?_;rintro e w4 ⟨⟨rv,rfl⟩,hring4,hg4⟩)
    rw [<- HRK.out,<- rowK_early HJ.out.2.1] at hring4
    clear HN HGB HRK
   rotate_left
   focus
    rw [decide_eq_false hbk] at KN
    have HN:=Lib.hid KN
    have hring4:=hring
    rw [<- rowK_zero' hbk,<- rowK_early HJ.out.2.1] at hring4
    clear KN hbk
    gi_wp2_with (refine ⟨trivial,?_⟩;gi_at_call 228;refine (callsIn_wide.2 HA.out).mono ?_;rintro e w' ⟨rfl,rfl⟩)
    gi_wp2_with (refine ⟨trivial,?_⟩;gi_at_call 229;refine (callsIn_wide.2 HN.out).mono ?_;rintro e w' ⟨rfl,rfl⟩)
    obtain ⟨w4,hw4⟩:∃ w4,w4=wr:=⟨_,rfl⟩
    have hg4:wr.grownBy w4 (some R):=by rw [hw4];exact World.grownBy.refl _ _
    rw [<- hw4] at hring4 ⊢
    clear HN hw4
   all_goals
    clear hring HA
    generalize wr=wo at *
    gi_loopw [4] (fun jc wi=>∃ j':Nat,jc=.int .i64 j'∧Hid (j'<=L.length∧(∀ k,k < j'->X L k<=(t:Int))∧(∀ k,j'<=k->k < L.length->(t:Int)<=X L k))∧RingQ wi R (rowK L t j')∧wo.grownBy wi (some R)) (fun i _=>L.length - (intOf i).toNat)
    case atStart=>exact ⟨j,rfl,Lib.hid ⟨HJ.out.1,fun k hk=>by have:=HJ.out.2.1 k hk;omega,HJ.out.2.2⟩,hring4,hg4⟩
    case round =>
     clear hring4 hg4
     obtain ⟨i,rfl,HJ2,hring5,hg5⟩:=hrel
     have hb5:Below W.heap.size wo wr:=(Below.refl _ wo).grown hg5 (by omega) (fun k e=>by cases e;omega)
     have hl5:=(hb5.block Bl hll).trans hl
     have cl5:wr.cell? ⟨Bl,0,none⟩=some (.slice A L.length cap):=by simp [World.cell?,hl5]
     rcases (show (i < L.length∧X L i=(t:Int))∨(i < L.length∧(t:Int) < X L i)∨i=L.length by
      rcases Nat.lt_or_ge i L.length with h | h
      ·have:=HJ2.out.2.2 i (Nat.le_refl _) h;omega
      ·have:=HJ2.out.1;omega) with ⟨hi,hx⟩ | ⟨hi,hx⟩ | hi
     ·obtain ⟨b,off,rfl,hlb,hcc⟩:=hc (by omega)
      have c1:=((hbB.trans (hb5.mono hB)).cell (p:=⟨b,off+i * 2,none⟩) hlb).trans (hcc i hi).1
      have hle:X L i<=(t:Int):=by omega
      have p1:(0:Int)<=(i:Int):=by omega
      have p2:(i:Int) < (L.length:Int):=by omega
      have HGB:=Lib.hid (c_goBehind (rowK L t i) (i:Int) R wr hring5 (rowK_lt hok hi hx))
      have HRK:=Lib.hid (rowK_yes hx)
      have HXT:=Lib.hid hx
      clear hcc hring5 hx hl5
      gi_wp2_with (refine ⟨trivial,?_⟩;gi_at_call 230;refine (callsIn_wide.2 HGB.out).mono ?_;rintro e w6 ⟨⟨rv,rfl⟩,hring6,hg6⟩)
      rw [<- HRK.out] at hring6
      gi_wp2
      go_roundw
      case rel=>exact ⟨i+1,by go_num,Lib.hid ⟨by omega,fun k hk=>by
       rcases Nat.lt_or_ge k i with h | h
       ·exact HJ2.out.2.1 k h
       ·have:=HXT.out;rw [show k=i by omega];omega,fun k hk hk2=>HJ2.out.2.2 k (by omega) hk2⟩,hring6,hg5.trans hg6⟩
      case measure=>simp [intOf];omega
     focus
      obtain ⟨b,off,rfl,hlb,hcc⟩:=hc (by omega)
      have c1:=((hbB.trans (hb5.mono hB)).cell (p:=⟨b,off+i * 2,none⟩) hlb).trans (hcc i hi).1
      have hle:¬ X L i<=(t:Int):=by omega
      have p1:(0:Int)<=(i:Int):=by omega
      have p2:(i:Int) < (L.length:Int):=by omega
      have hlate:∀ k,i<=k->k < L.length->(t:Int) < X L k:=fun k h1 h2=>by have:=cOk_mono hok h1 h2;omega
      have e:=rowK_late (L:=L) (t:=t) (j:=i) (L.length - i) (fun k h1 h2=>hlate k h1 (by omega))
      rw [show i+(L.length - i)=L.length by omega,rowK_all] at e
      rw [<- e] at hring5
      have HJ3:Hid (i<=L.length∧(∀ k,k < i->X L k < ((t+1:Nat):Int))∧(∀ k,i<=k->k < L.length->((t+1:Nat):Int)<=X L k)) :=
       ⟨by omega,fun k hk=>by have:=HJ2.out.2.1 k hk;omega,fun k h1 h2=>by have:=hlate k h1 h2;omega⟩
      clear hcc hx e hlate hlb
     rotate_left
     focus
      have p2:¬ (i:Int) < (L.length:Int):=by omega
      have HJ3:Hid (i<=L.length∧(∀ k,k < i->X L k < ((t+1:Nat):Int))∧(∀ k,i<=k->k < L.length->((t+1:Nat):Int)<=X L k)) :=
       ⟨by omega,fun k hk=>by have:=HJ2.out.2.1 k hk;omega,fun k h1 h2=>by omega⟩
      rw [hi,rowK_all] at hring5
     all_goals
      have HTH:=Lib.hid (show Calls Tryz.prog 231 #[.pointer (some ⟨R,0,none⟩)] wr fun e w'=>e=.returned (.int .i64 (rrW L t))∧RingQ w' R (rrRow L (t+1))∧wr.grownBy w' (some R) from c_takeHead (rrQ L t) R wr hring5)
      clear hring5 hb5 HJ HJ2 hi
      gi_wp2_with (refine ⟨trivial,?_⟩;gi_at_call 231;refine (callsIn_wide.2 HTH.out).mono ?_;rintro e w6 ⟨rfl,hring6,hg6⟩)
      have hg06:=hg5.trans hg6
      have hz6:=hg06.size
      have hJ6:=hJ _ _ _ _ hJs hg06 (fun r e=>by cases e;obtain ⟨o,ho,hco⟩:=HRO.out;exact ⟨hWR,o,ho,hco,fun hf=>(HF.out R hf).2.2 rfl⟩)
      have hb6:Below W.heap.size wo w6:=(Below.refl _ wo).grown hg06 (by omega) (fun k e=>by cases e;omega)
      have hown6:IO w6 W.heap.size (.slice G L.length g) (rrLf L t):=hown.kept hg06 (fun r hr e=>by cases e;have:=HG.out R hr;omega)
      have hl6:=(hb6.block Bl hll).trans hl
      have HF6:Hid (∀ b,FrO Bo w6 b->W.heap.size<=b∧(Value.slice G L.length g).ownBlock≠some b∧b≠R):=fun b hb=>HF.out b (FrO.congr hb6 hBo hb)
      have hbB6:=hbB.trans (hb6.mono hB)
      have HE:=Lib.hid (rrLf_succ L t)
      have HO:=Lib.hid (show rrO L (t+1)=rrO L t++[rrW L t] from ordF_succ _ _)
      have HSV:=Lib.hid (c_serve (rrLf L t) (rrW L t) W.heap.size (.slice G L.length g) w6 hown6 (by
       rcases rr_picks (HI.out t).1 (HI.out t).2.2 with ⟨e,_⟩ | ⟨p,e,hpl2,hx,hz,_⟩
       ·exact .inl e
       ·refine .inr ?_
        rw [e]
        have rg:=(HI.out t).1.rng p hpl2
        have bd:=cOk_bd hok hpl2
        simp only [Int.toNat_natCast]
        omega) (by omega))
      have hcj:=hown6.cellsObj
      clear hg06 hg5 hg6 hown hbB hl hJs HTH HF HRO hb6
      gi_wp2_with (refine ⟨trivial,?_⟩;gi_at_call 232;refine (callsIn_wide.2 HSV.out).mono ?_;rintro e w8 ⟨⟨rv2,rfl⟩,hown8,hg8⟩)
      have hz8:=hg8.size
      have hJ8:=hJ _ _ _ _ hJ6 hg8 (fun b e=>by
       obtain ⟨o,ho,hco⟩:=hcj b e
       exact ⟨(HG.out b e).1,o,ho,hco,fun hfb=>(HF6.out b hfb).2.1 e⟩)
      have hne8:∀ k,k < W.heap.size->(Value.slice G L.length g).ownBlock≠some k:=fun k hk e=>by have:=HG.out k e;omega
      have hl8:=(hg8.block Bl (by omega) (fun e=>hne8 Bl hll e.symm)).trans hl6
      have hring8:=hring6.congr (hg8.block R (by omega) (fun e=>by have:=HG.out R e.symm;omega))
      have hbW8:Below W.heap.size w6 w8:=(Below.refl _ w6).grown hg8 (by omega) (fun k e=>(HG.out k e).1)
      have HF8:Hid (∀ b,FrO Bo w8 b->W.heap.size<=b∧(Value.slice G L.length g).ownBlock≠some b∧b≠R):=fun b hb=>HF6.out b (FrO.congr hbW8 hBo hb)
      have hbB8:=hbB6.trans (hbW8.mono hB)
      rw [<- HE.out] at hown8
      have hol:(rrO L t).length=t:=rrO_len _ _
      obtain ⟨fn,tmps,assign,body,hy,hRd⟩:=hY (rrO L t) (rrW L t) w8 hJ8 (by rw [hol];exact ⟨hlt,rfl⟩)
      clear hol hJ6 hl6 hbB6 hown6 hcj hring6 HSV hne8 hg8 hbW8 HF6
      gi_wp2
      rw [hy,Oper.uponIn_round]
      refine ⟨fun _=>hn,hRd.mono ?_⟩
      rintro e W3 (⟨rfl,hJ3,hk3⟩ | ⟨rfl,hJx3⟩)
      ·obtain ⟨k1,k2,k3⟩:=hk3
       have hz3:=k1.size
       have hl3:=k2 Bl _ hl8 rfl hlo (fun h=>by have:=(HF8.out _ h).1;omega)
       have hring3:RingQ W3 R (rrRow L (t+1)):=by
        obtain ⟨o,ho,hco⟩:=hring8.obj
        exact hring8.congr ((k2 R o ho hco (by omega) (fun h=>(HF8.out _ h).2.2 rfl)).trans ho.symm)
       have hown3:=hown8.blockKept (w':=W3) (fun b o e ho hco=>k2 b o ho hco (fun e2=>by have:=HG.out b e;omega) (fun h=>(HF8.out _ h).2.1 e))
       have HF3:Hid (∀ b,FrO Bo W3 b->W.heap.size<=b∧(Value.slice G L.length g).ownBlock≠some b∧b≠R):=fun b hb=>by
        rcases k3 b hb with h4 | h4
        ·exact HF8.out b h4
        ·exact ⟨by omega,fun e=>by have:=owns_lt hown8 b e;omega,by omega⟩
       rw [<- HO.out] at hJ3
       have hbB3:=hbB8.trans k1
       clear k1 k2 k3 HF8 HG
       gi_wp2
       go_roundw
       case rel=>exact ⟨t+1,i,by omega,by go_num,rfl,by rw [rrB_succ],HJ3,hJ3,hown3,hring3,hbB3,by omega,hl3,HF3⟩
       case measure=>simp [intOf];omega
      ·gi_wp2
       refine bodyPost_ret (results_none rfl _ _ _) rfl ?_
       exact ⟨⟨_,rfl⟩,.inr ⟨_,trivial,hJx3⟩⟩
  ·rw [decide_eq_false hlt] at KA
   have HA:=Lib.hid KA
   clear KA
   obtain rfl:t=T:=by omega
   gi_wp2_with (refine ⟨trivial,?_⟩;gi_at_call 228;refine (callsIn_wide.2 HA.out).mono ?_;rintro e w' ⟨rfl,rfl⟩)
   go_end0
   exact ⟨⟨_,rfl⟩,.inl ⟨_,rfl,hJs⟩⟩
theorem byTurns_in (n:Nat) (A:Option Addr) (len cap:Nat) (w:World) :
  CallsIn Fence.wide n Tryz.prog 196 #[.slice A len cap] w fun e w'=>e=.returned (.func (.func 226) #[] #[.pointer (some ⟨w.heap.size,0,none⟩)])∧w'=w.alloc (.cells #[.slice A len cap] 28):=by
 refine callsIn_of_wp Tryz.func196 rfl trivial ?_ rfl
 simp only [Tryz.ntmps196,List.size_toArray,List.length_cons,List.length_nil,Nat.reduceAdd,Nat.reduceSub,Array.replicate_succ,Array.replicate_zero,List.push_toArray,List.append_toArray,List.nil_append,List.cons_append]
 gi_wp2
 go_ret
 exact ⟨rfl,rfl⟩
theorem byTurns_nx (n:Nat) (hn:1<=n) (Bl Bo B cap:Nat) (A:Option Addr) (L:List (Int×Int)) (hok:cOk L=true) (T:Nat) (hT:lastLeave L=T) (hcap:L.length<=cap) (w:World)
  (hBl:w.heap[Bl]?=some (.cells #[.slice A L.length cap] 28 (0,0)))
  (hlo:Bl≠Bo) (hBo:Bo < w.heap.size) (hfr:∀ b,¬ FrO Bo w b) (hB:B<=w.heap.size) (hc:Cs w B A L) :
  SeqNx (FrO Bo) Fence.wide n Tryz.prog 226 #[.pointer (some ⟨Bl,0,none⟩)] (fun x:Int=>#[Value.int .i64 x]) (Kq B Bo) (fun pre x=>pre.length < T∧x=rrW L pre.length) (fun ys=>ys=rrO L T) (fun _=>True) w:=fun l J Jx W hW hJ hY h0=>by
 have h1:Bl < w.heap.size:=(Array.getElem?_eq_some_iff.1 hBl).1
 have hs:=hW.size
 exact byTurns1_in n hn l Bl Bo B cap A L hok T hT hcap J Jx W hY hJ ((hW.block Bl h1).trans hBl) hlo (by omega) (fun b hb=>hfr b (FrO.congr hW hBo hb)) (by omega) (hc.below (hW.mono hB)) h0
theorem c_iRoundOrder (L:List (Int×Int)) (A:Option Addr) (d:Nat) (w:World) (hA:Cs w w.heap.size A L) (hcap:L.length<=d) (hn:L.length<=140737488351232) :
  Calls Tryz.prog 166 #[.slice A L.length d] w fun e w'=>∃ v,e=.returned v∧IO w' w.heap.size v (roundR L)∧Below w.heap.size w w':=by
 have HC:=Lib.hid (c_iCustomersOk L A d w hA hn)
 by_cases hok:cOk L=true
 ·obtain ⟨T,hT,hT2⟩:=lastLeave_nat hok
  have HV:=Lib.hid (roundR_yes hok hT)
  have HT:=Lib.hid hT
  have H:=Lib.hid hok
  have hlen:=cOk_len hok
  clear hok hT
  refine (callsIn_wide (n:=6)).1 ?_
  refine callsIn_of_wp_marks Tryz.func166 rfl trivial ?_ rfl
  simp only [Tryz.ntmps166,List.size_toArray,List.length_cons,List.length_nil,Nat.reduceAdd,Nat.reduceSub,Array.replicate_succ,Array.replicate_zero,List.push_toArray,List.append_toArray,List.nil_append,List.cons_append]
  gi_wp2_with (refine ⟨trivial,?_⟩;gi_at_call 61;refine (callsIn_wide.2 HC.out).mono ?_;rw [H.out];rintro e w1 ⟨rfl,hb1⟩)
  have bO:=Boxed.new w1 85 (.slice none 0 0)
  have hs1:=hb1.size
  gi_wp2_with (refine ⟨trivial,?_⟩;gi_at_call 196;refine (byTurns_in _ _ _ _ _).mono ?_;rintro e w' ⟨rfl,rfl⟩)
  obtain ⟨W0,hW0⟩:∃ W0,(w1.alloc (.cells #[.slice none 0 0] 85)).alloc (.cells #[.slice A L.length d] 28)=W0:=⟨_,rfl⟩
  have bO0:=bO.alloc (.cells #[.slice A L.length d] 28)
  have bL0:((w1.alloc (.cells #[.slice none 0 0] 85)).alloc (.cells #[.slice A L.length d] 28)).heap[w1.heap.size+1]?=some (.cells #[.slice A L.length d] 28 (0,0)):=heap_new2' _ _ _
  have hB0:Below w.heap.size w ((w1.alloc (.cells #[.slice none 0 0] 85)).alloc (.cells #[.slice A L.length d] 28)):=(hb1.alloc hs1 _).alloc (by simp;omega) _
  have hsz:((w1.alloc (.cells #[.slice none 0 0] 85)).alloc (.cells #[.slice A L.length d] 28)).heap.size=w1.heap.size+2:=by simp
  rw [hW0] at bO0 bL0 hB0 hsz ⊢
  have hfr0:∀ b,¬ FrO w1.heap.size W0 b:=by
   rintro b ⟨v,h1,h2⟩
   rw [bO0.cell] at h1
   cases h1
   simp [Value.ownBlock] at h2
  clear hW0 bO hb1
  refine rangeFunc_nx rfl (by omega) (gf:=226) (lb:=#[.pointer (some ⟨w1.heap.size+1,0,none⟩)]) rfl trivial (enters_of Tryz.func226 (by kernel_rfl) rfl)
   (byTurns_nx _ (by omega) (w1.heap.size+1) w1.heap.size w.heap.size d A L H.out T HT.out hcap W0 bL0 (by omega) (by omega) hfr0 (by omega) (hA.below hB0)) Kq.t (Kq.b (by omega) (by omega)) (Below.refl _ _) (fun _=>rfl)
   (fun (pre:List Int) W=>(∃ v,Boxed W w1.heap.size 85 v∧IO W (w1.heap.size+1) v pre)∧(Below w.heap.size w W∧W0.heap.size<=W.heap.size))
   (fun _ _ _=>False) ?own (fun _ _ _ _ _ h _ _=>h) ⟨⟨_,bO0,IO.nil _ _⟩,hB0,Nat.le_refl _⟩
   (fun x=>{ tmps:=#[.slice A L.length d,undef,.slice none 0 0,.pointer (some ⟨w1.heap.size,0,none⟩),.int .i64 x,.slice A L.length d,.bool true,.bool false,.slice A L.length d,.func (.func 226) #[] #[.pointer (some ⟨w1.heap.size+1,0,none⟩)],.int .i64 x,undef,undef,undef,undef,undef],defers:=[] })
   ?assign ?body ?done ?stop
  case own =>
   rintro pre W W' row ⟨⟨v,bO,hown⟩,hB1,hZ⟩ hg hrow
   refine ⟨⟨v,bO.kept hg (fun e=>by have:=(hrow _ e.symm).1;omega),hown.kept hg (fun b hv e=>?_)⟩,hB1.grown hg (by omega) (fun k e=>by have:=(hrow k e).1;omega),by have:=hg.size;omega⟩
   obtain ⟨_,o,ho,hno⟩:=hrow b e
   obtain ⟨o2,ho2,hc2⟩:=hown.cellsObj b hv
   rw [ho] at ho2;cases ho2
   exact hno hc2 ⟨v,bO.cell,hv⟩
  case assign =>
   rintro l x W K hK
   gi_wp2
   exact hK
  case body =>
   rintro l pre x W ⟨⟨v,bO,hown⟩,hB1,hZ⟩ ⟨hpl,hx⟩
   have cO:=bO.cell
   have fO:=bO.frozen
   have hob:=owns_base hown
   obtain ⟨O5,c5,rfl,-,-,-⟩:=hown.form
   have q5:pre.length<=1000000000000:=by omega
   have q6:w1.heap.size+1<=(W.alloc (.cells #[.int .i64 x] 3)).heap.size:=by simp;omega
   have bOa:=bO.alloc (.cells #[.int .i64 x] 3)
   clear hx
   gi_wp2_with (refine appIn_I ?_ (.tmp 11) (.tmp 13) ?_ (w1.heap.size+1) (.slice O5 pre.length c5) pre x W.heap.size ?_ ?_ ?_ ?_ ?_ ?_ ?_;rfl;rfl;rfl;exact (hown.alloc _);rfl;exact (heap_alloc_new _ _);exact q5;exact q6;intro g7 cap7 w7 hown7 hgr7 hor7;have bO7:=bOa.kept hgr7 (fun e=>by have:=hob _ e.symm;omega);have cO7:=bO7.cell;have fO7:=bO7.frozen)
   have hza:=hgr7.size
   simp only [World.size_alloc] at hza
   have hbW:Below w.heap.size W (w7.setCell ⟨w1.heap.size,0,none⟩ (.slice (some ⟨g7,0,none⟩) (pre.length+1) cap7)):=(((Below.refl _ W).alloc (by omega) _).grown hgr7 (by simp;omega) (fun k e=>by have:=hob k e;omega)).setCell (p:=⟨w1.heap.size,0,none⟩) (by simp;omega) _
   have hzs:(w7.setCell ⟨w1.heap.size,0,none⟩ (.slice (some ⟨g7,0,none⟩) (pre.length+1) cap7)).heap.size=w7.heap.size:=by simp [World.setCell]
   refine ⟨(((KeepsOthers.of_grownBy (World.grownBy_alloc W _ none) (fun j o e ho=>by cases e)).trans (KeepsOthers.of_grownBy hgr7 (fun j o e ho=>by
    obtain ⟨o2,ho2,hc2⟩:=(hown.alloc (.cells #[.int .i64 x] 3)).cellsObj j e
    rw [ho] at ho2;cases ho2;exact hc2))).trans (KeepsOthers.setCell _ _ _)).from _,⟨hbW,?_,?_⟩,⟨_,bO7.set _,?_⟩,hB1.trans hbW,by omega⟩
   ·intro b o ho hco hne hfb
    have hlt:=(Array.getElem?_eq_some_iff.1 ho).1
    refine (Below.heap_setCell _ _ _ _ hne).trans ((hgr7.block b (by simp;omega) fun e=>hfb ⟨_,cO,e.symm⟩).trans ((Below.heap_alloc _ _ _ hlt).trans ho))
   ·rintro b ⟨v2,h1,h2⟩
    rw [(bO7.set _).cell] at h1
    cases h1
    have e:g7=b:=by simpa [Value.ownBlock] using h2
    subst e
    rcases hor7 with h | h
    ·exact .inl ⟨_,cO,h⟩
    ·right;rw [h];simp
   ·exact hown7.kept (grownBy_setCell' _ _ _) (fun b hv e=>by have:=owns_base hown7 b hv;cases e;omega)
  case done =>
   rintro D ys W hD hys ⟨⟨v,bO,hown⟩,hB1,hZ⟩ hK
   have cO:=bO.cell
   rw [hys] at hown
   have hco:=hown.cellsObj
   obtain ⟨O5,c5,rfl,-,-,-⟩:=hown.form
   gi_wp2
   refine ⟨by simp,.inl ⟨_,_,rfl,run_takeDeferred hK,?_⟩⟩
   refine ⟨_,results_tmp rfl _ _ _,_,rfl,?_,hB1.trans (belowK_b (w:=w) (Nat.le_refl _) W D _ _ (by omega) hK rfl rfl)⟩
   rw [HV.out]
   exact (hown.mono (by omega)).kept (grownBy_putObj' W D _) (fun b hv e=>by
    cases e
    obtain ⟨o,ho,hc⟩:=hco _ hv
    rw [hK] at ho;cases ho;cases hc)
  case stop =>
   rintro D cd pre W _ _ h _
   exact h.elim
 ·have hno:cOk L=false:=by simpa using hok
  have H:=Lib.hid hno
  have HV:=Lib.hid (roundR_no hno)
  clear hok hno
  go_enter Tryz.func166,Tryz.ntmps166
  go_wp2_with fail
  refine HC.out.mono ?_
  rintro e w1 ⟨rfl,hb1⟩
  rw [H.out]
  go_wp2_with fail
  go_ret
  exact ⟨_,rfl,by rw [HV.out];exact IO.nil _ _,hb1⟩
end
end Go.Proofs.YthpccmkagikhjaaGreatDoor

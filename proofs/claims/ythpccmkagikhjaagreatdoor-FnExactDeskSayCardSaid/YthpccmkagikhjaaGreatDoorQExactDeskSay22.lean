import Derived.Test.YthpccmkagikhjaaGreatDoorQExactDeskSay2
import Derived.Test.YthpccmkagikhjaaGreatDoorQExactDeskSay3
import Derived.Test.YthpccmkagikhjaaGreatDoorQExactDeskSay4
import Derived.Test.YthpccmkagikhjaaGreatDoorQExactDeskSay5
import Derived.Test.YthpccmkagikhjaaGreatDoorQExactDeskSay11
import Derived.Test.YthpccmkagikhjaaGreatDoorQExactDeskSay12
import Derived.Test.YthpccmkagikhjaaGreatDoorQExactDeskSay13
import Derived.Test.YthpccmkagikhjaaGreatDoorQExactDeskSay14
import Derived.Test.YthpccmkagikhjaaGreatDoorQExactDeskSay19
import Derived.Test.YthpccmkagikhjaaGreatDoorQExactDeskSay20
import Derived.Test.YthpccmkagikhjaaGreatDoorQExactDeskSay21
import Derived.OwnWalkIn
import Derived.Laws.EntriesVeiled
import Derived.OwnWalk
import Derived.BigQuiet
namespace Go.Proofs.YthpccmkagikhjaaGreatDoor
set_option linter.unusedVariables false
open Go.RowKit
set_option maxRecDepth 100000
set_option maxHeartbeats 4000000
section
open Go.RowKit Go.Shelf
attribute [local go_sem] Oper.semAt_some
def ruleF (r:Int) (f:Nat):Prop:=(r=0∧f=239)∨(r=1∧f=240)∨(r=2∧f=241)∨(r=3∧f=242)
theorem unitsBy1_in (n:Nat) (hn:1<=n) (r:Int) (f:Nat) (hf:ruleF r f) (l Bl Bp Bo B cap:Nat) (A:Option Addr) (L:List (Int×Int)) (hok:cOk L=true) (T:Nat) (hT:lastLeave L=T) (hcap:L.length<=cap)
  (J Jx:List Int->World->Prop) (W:World)
  (hY:∀ pre x W1,J pre W1->(pre.length < T∧x=ordW L r pre.length)->YieldAt Fence.wide (n - 1) Tryz.prog l #[.int .i64 x] W1 fun e W' =>
    (e=.returned (.bool true)∧J (pre++[x]) W'∧Kq B Bo W1 W')∨(e=.returned (.bool false)∧Jx (pre++[x]) W'))
  (hJ:AbidesW W.heap.size (FrO Bo) J) (hBl:W.heap[Bl]?=some (.cells #[.slice A L.length cap] 28 (0,0))) (hBp:W.heap[Bp]?=some (.cells #[.func (.func f) #[] #[]] 205 (0,0)))
  (hlo:Bl≠Bo) (hpo:Bp≠Bo) (hBo:Bo < W.heap.size) (hfr:∀ b,¬ FrO Bo W b) (hB:B<=W.heap.size) (hc:Cs W B A L) (h0:J [] W) :
  CallsIn Fence.wide n Tryz.prog 235 #[.func (.yield l) #[] #[],.pointer (some ⟨Bl,0,none⟩),.pointer (some ⟨Bp,0,none⟩)] W fun e W'=>(∃ v,e=.returned v) ∧
   ((∃ ys,ys=orderTo L r T∧J ys W')∨(∃ pre,True∧Jx pre W')):=by
 have hlen:=cOk_len hok
 have hT2:T<=132:=by obtain ⟨T',e,h⟩:=lastLeave_nat hok;omega
 have hll:Bl < W.heap.size:=(Array.getElem?_eq_some_iff.1 hBl).1
 have hpl:Bp < W.heap.size:=(Array.getElem?_eq_some_iff.1 hBp).1
 have cl:W.cell? ⟨Bl,0,none⟩=some (.slice A L.length cap):=by simp [World.cell?,hBl]
 have HI:=Lib.hid (fun t=>ordL_inv hok r t)
 refine callsIn_of_wp Tryz.func235 rfl trivial ?_ rfl
 simp only [Tryz.ntmps235,List.size_toArray,List.length_cons,List.length_nil,Nat.reduceAdd,Nat.reduceSub,Array.replicate_succ,Array.replicate_zero,List.push_toArray,List.append_toArray,List.nil_append,List.cons_append]
 gi_wp2_with (refine ⟨trivial,?_⟩;gi_at_call 227;refine (callsIn_wide.2 (c_needsOf L A cap W (hc.more hB) (by omega))).mono ?_;rintro e w1 ⟨v,rfl,hown1,hb1⟩)
 have hg1:W.grownBy w1 none:=grown_below hb1 (Nat.le_refl _)
 have hJ1:=hJ _ _ _ _ h0 hg1 (fun r e=>by cases e)
 obtain ⟨G,g,rfl,hg0,-⟩:=hown1.formG
 rw [needs_len] at hown1 hg0 ⊢
 have hs1:=hb1.size
 have hfr1:∀ b,¬ FrO Bo w1 b:=fun b hb=>hfr b (FrO.congr hb1 hBo hb)
 have hBl1:=(hb1.block Bl hll).trans hBl
 have hBp1:=(hb1.block Bp hpl).trans hBp
 have hbB1:Below B W w1:=hb1.mono hB
 have HG:=Lib.hid (fun b (e:(Value.slice G L.length g).ownBlock=some b)=>owns_base hown1 b e)
 clear hb1 hg1 h0 hfr cl
 gi_loopw [5] (fun i wr=>∃ t:Nat,t<=T∧i=.int .i64 t∧J (orderTo L r t) wr∧IO wr W.heap.size (.slice G L.length g) (ordL L r t)∧Below B W wr∧W.heap.size<=wr.heap.size ∧
   wr.heap[Bl]?=some (.cells #[.slice A L.length cap] 28 (0,0))∧wr.heap[Bp]?=some (.cells #[.func (.func f) #[] #[]] 205 (0,0))∧Hid (∀ b,FrO Bo wr b->W.heap.size<=b∧(Value.slice G L.length g).ownBlock≠some b))
  (fun i _=>T - (intOf i).toNat)
 case atStart=>exact ⟨0,by omega,rfl,hJ1,hown1,hbB1,hs1,hBl1,hBp1,fun b hb=>absurd hb (hfr1 b)⟩
 case round =>
  obtain ⟨t,ht,rfl,hJs,hown,hbB,hsz,hl,hp,HF⟩:=hrel
  have hln:=(HI.out t).len
  have KA:=c_any (ordL L r t) G wr.heap.size g wr hown.isOf.2 (by omega)
  rw [left_any hok hT t,hln] at KA
  by_cases hlt:t < T
  ·rw [decide_eq_true hlt] at KA
   have HA:=Lib.hid KA
   clear KA
   have cl:wr.cell? ⟨Bl,0,none⟩=some (.slice A L.length cap):=by simp [World.cell?,hl]
   have cp:wr.cell? ⟨Bp,0,none⟩=some (.func (.func f) #[] #[]):=by simp [World.cell?,hp]
   have HS:=Lib.hid (fun (w':World) (hb:Below W.heap.size wr w')=>show w'.cell? ⟨Bl,0,none⟩=some (.slice A L.length cap)∧w'.cell? ⟨Bp,0,none⟩=some (.func (.func f) #[] #[]) from ⟨(hb.cell (p:=⟨Bl,0,none⟩) hll).trans cl,(hb.cell (p:=⟨Bp,0,none⟩) hpl).trans cp⟩)
   have HC:=Lib.hid (fun (w':World) (hb:Below wr.heap.size wr w')=>c_comeUpTo L A cap (t:Int) w' ((hc.below (hbB.trans (hb.mono (by omega)))).more (by have:=hb.size;omega)) hcap (by omega))
   have HW:=Lib.hid (fun (w':World) (hb:Below wr.heap.size wr w')=>show Calls Tryz.prog 237 #[.slice G L.length g,.int .i64 (cnt L t:Nat)] w' fun e w''=>∃ v,e=.returned v∧DO w'' w'.heap.size v (cands (ordL L r t) (cnt L t))∧Below w'.heap.size w' w'' from by
    have K:=c_waiting (ordL L r t) G g (cnt L t) w' ((hown.isOf.2.below hb).more hb.size) (by rw [hln];exact cnt_le L _) (by omega) (by omega)
    rw [hln] at K
    exact K)
   have HX:=Lib.hid (fun (D:Option Addr) (d:Nat) (w':World) (hD:Ds w' w'.heap.size D (cands (ordL L r t) (cnt L t)))=>show Calls Tryz.prog 236 #[.func (.func f) #[] #[],.slice D (cands (ordL L r t) (cnt L t)).length d] w' fun e w''=>e=.returned (.int .i64 (ordW L r t))∧Below w'.heap.size w' w'' from by
    have K:=c_choose r f hf (cands (ordL L r t) (cnt L t)) D d w' hD (by have:=cands_len (ordL L r t) (cnt L t);have:=cnt_le L (t:Int);omega) (cands_small hok r t _ (cnt_le L _))
    rw [chosen_is hok (by rcases hf with h | h | h | h <;> simp [h.1]) t] at K
    exact K)
   gi_wp2_with (refine ⟨trivial,?_⟩;gi_at_call 228;refine (callsIn_wide.2 HA.out).mono ?_;rintro e w' ⟨rfl,rfl⟩)
   refine wpIn_wide.2 ?_
   go_region_held3 (fun w'=>w'.cell? ⟨Bl,0,none⟩=some (.slice A L.length cap)∧w'.cell? ⟨Bp,0,none⟩=some (.func (.func f) #[] #[]))
    (first
      | go_keep
      | exact HS.out _ (hx5.mono hsz)
      | exact HS.out _ (hx6.mono hsz)
      | exact HS.out _ (hx7.mono hsz))
    (first
      | (go_at_call 238;refine (HC.out _ (Below.refl _ wr).drew).mono ?_;rintro e w5 ⟨rfl,hb5⟩;have hx5:Below wr.heap.size wr w5:=(Below.refl _ wr).drew.trans hb5)
      | (go_at_call 237;refine (HW.out _ hx5).mono ?_;rintro e w6 ⟨v6,rfl,o6,hb6⟩;obtain ⟨D6,d6,rfl,hD6⟩:=o6.form;have hx6:Below wr.heap.size wr w6:=hx5.trans (hb6.mono hx5.size))
      | (go_at_call 236;refine (HX.out _ _ _ hD6).mono ?_;rintro e w7 ⟨rfl,hb7⟩;have hx7:Below wr.heap.size wr w7:=hx6.trans (hb7.mono hx6.size)))
   have hown7:=hown.below hx7 (Nat.le_refl _)
   have hz7:=hx7.size
   have hJ7:=hJ _ _ _ none hJs (grown_below hx7 (Nat.le_refl _)) (fun r e=>by cases e)
   have hl7:=(hx7.block Bl (by omega)).trans hl
   have hp7:=(hx7.block Bp (by omega)).trans hp
   have HF7:Hid (∀ b,FrO Bo w7 b->W.heap.size<=b∧(Value.slice G L.length g).ownBlock≠some b):=fun b hb=>HF.out b (FrO.congr hx7 (by omega) hb)
   have hbB7:=hbB.trans (hx7.mono (by omega))
   have HE:=Lib.hid (show ordL L r (t+1)=stepL (ordL L r t) (ordW L r t) from rfl)
   have HO:=Lib.hid (orderTo_succ L r t)
   have HSV:=Lib.hid (c_serve (ordL L r t) (ordW L r t) W.heap.size (.slice G L.length g) w7 hown7 (by
    rcases (HI.out t).picks r with ⟨e,_⟩ | ⟨p,e,hpl2,hx,hz,_⟩
    ·exact .inl e
    ·refine .inr ?_
     have e2:ordW L r t=p:=e
     rw [e2]
     have rg:=(HI.out t).rng p hpl2
     have bd:=cOk_bd hok hpl2
     simp only [Int.toNat_natCast]
     omega) (by omega))
   have hcj:=hown7.cellsObj
   clear hb5 hb6 hb7 hx5 hx6 hx7 hD6 o6 HX HW HC HS HA cl cp hown hbB hl hp hJs
   gi_wp2_with (refine ⟨trivial,?_⟩;gi_at_call 232;refine (callsIn_wide.2 HSV.out).mono ?_;rintro e w8 ⟨⟨rv,rfl⟩,hown8,hg8⟩)
   have hz8:=hg8.size
   have hJ8:=hJ _ _ _ _ hJ7 hg8 (fun b e=>by
    obtain ⟨o,ho,hco⟩:=hcj b e
    exact ⟨HG.out b e,o,ho,hco,fun hfb=>(HF7.out b hfb).2 e⟩)
   have hne8:∀ k,k < W.heap.size->(Value.slice G L.length g).ownBlock≠some k:=fun k hk e=>by have:=HG.out k e;omega
   have hl8:=(hg8.block Bl (by omega) (fun e=>hne8 Bl hll e.symm)).trans hl7
   have hp8:=(hg8.block Bp (by omega) (fun e=>hne8 Bp hpl e.symm)).trans hp7
   have hbW8:Below W.heap.size w7 w8:=(Below.refl _ w7).grown hg8 (by omega) (fun k e=>HG.out k e)
   have HF8:Hid (∀ b,FrO Bo w8 b->W.heap.size<=b∧(Value.slice G L.length g).ownBlock≠some b):=fun b hb=>HF7.out b (FrO.congr hbW8 hBo hb)
   have hbB8:=hbB7.trans (hbW8.mono hB)
   rw [<- HE.out] at hown8
   have hol:(orderTo L r t).length=t:=orderTo_len _ _ _
   obtain ⟨fn,tmps,assign,body,hy,hR⟩:=hY (orderTo L r t) (ordW L r t) w8 hJ8 (by rw [hol];exact ⟨hlt,rfl⟩)
   clear hol hJ7 hl7 hp7 hbB7 hown7 hcj
   gi_wp2
   rw [hy,Oper.uponIn_round]
   refine ⟨fun _=>hn,hR.mono ?_⟩
   rintro e W3 (⟨rfl,hJ3,hk3⟩ | ⟨rfl,hJx3⟩)
   ·obtain ⟨k1,k2,k3⟩:=hk3
    have hz3:=k1.size
    have hl3:=k2 Bl _ hl8 rfl hlo (fun h=>by have:=(HF8.out _ h).1;omega)
    have hp3:=k2 Bp _ hp8 rfl hpo (fun h=>by have:=(HF8.out _ h).1;omega)
    have hown3:=hown8.blockKept (w':=W3) (fun b o e ho hco=>k2 b o ho hco (fun e2=>by have:=HG.out b e;omega) (fun h=>(HF8.out _ h).2 e))
    have HF3:Hid (∀ b,FrO Bo W3 b->W.heap.size<=b∧(Value.slice G L.length g).ownBlock≠some b):=fun b hb=>by
     rcases k3 b hb with h4 | h4
     ·exact HF8.out b h4
     ·exact ⟨by omega,fun e=>by have:=owns_lt hown8 b e;omega⟩
    rw [<- HO.out] at hJ3
    have hbB3:=hbB8.trans k1
    clear k1 k2 k3 HF8 HF7 HF HG
    gi_wp2
    go_roundw
    case rel=>exact ⟨t+1,by omega,by go_num,hJ3,hown3,hbB3,by omega,hl3,hp3,HF3⟩
    case measure=>simp [intOf];omega
   ·gi_wp2
    refine bodyPost_ret (results_none rfl _ _ _) rfl ?_
    exact ⟨⟨_,rfl⟩,.inr ⟨_,trivial,hJx3⟩⟩
  ·rw [decide_eq_false hlt] at KA
   have HA:=Lib.hid KA
   clear KA
   obtain rfl:t=T:=by omega
   gi_wp2_with (refine ⟨trivial,?_⟩;gi_at_call 228;refine (callsIn_wide.2 HA.out).mono ?_;rintro e w' ⟨rfl,rfl⟩)
   go_end0
   exact ⟨⟨_,rfl⟩,.inl ⟨_,rfl,hJs⟩⟩
theorem unitsBy_in (n:Nat) (A:Option Addr) (len cap:Nat) (f:Nat) (w:World) :
  CallsIn Fence.wide n Tryz.prog 203 #[.slice A len cap,.func (.func f) #[] #[]] w fun e w'=>e=.returned (.func (.func 235) #[] #[.pointer (some ⟨w.heap.size,0,none⟩),.pointer (some ⟨w.heap.size+1,0,none⟩)])∧w'=(w.alloc (.cells #[.slice A len cap] 28)).alloc (.cells #[.func (.func f) #[] #[]] 205):=by
 refine callsIn_of_wp Tryz.func203 rfl trivial ?_ rfl
 simp only [Tryz.ntmps203,List.size_toArray,List.length_cons,List.length_nil,Nat.reduceAdd,Nat.reduceSub,Array.replicate_succ,Array.replicate_zero,List.push_toArray,List.append_toArray,List.nil_append,List.cons_append]
 gi_wp2
 go_ret
 exact ⟨rfl,rfl⟩
theorem c_ruleTable (w:World):Calls Tryz.prog 204 #[] w fun e w'=>e=.returned (.agg #[.func (.func 239) #[] #[],.func (.func 240) #[] #[],.func (.func 241) #[] #[],.func (.func 242) #[] #[]])∧Below w.heap.size w w':=by
 go_enter Tryz.func204,Tryz.ntmps204
 go_wp2_with fail
 refine bodyPost_ret (v:=.agg #[.func (.func 239) #[] #[],.func (.func 240) #[] #[],.func (.func 241) #[] #[],.func (.func 242) #[] #[]]) (by simp [results,Tryz.f204,go_sem]) rfl ?_
 exact ⟨rfl,by (repeat (first | exact rfl | exact Below.refl _ _ | (with_reducible refine Below.drew ?_) | (with_reducible refine Below.drewN ?_ _) | (with_reducible refine Below.alloc ?_ ?_ _) | (with_reducible refine Below.setCell ?_ ?_ _) | (show _<=_;focus (first | omega | (simp;done) | (simp;omega)))))⟩
theorem unitsBy_nx (n:Nat) (hn:1<=n) (r:Int) (f:Nat) (hf:ruleF r f) (Bl Bp Bo B cap:Nat) (A:Option Addr) (L:List (Int×Int)) (hok:cOk L=true) (T:Nat) (hT:lastLeave L=T) (hcap:L.length<=cap) (w:World)
  (hBl:w.heap[Bl]?=some (.cells #[.slice A L.length cap] 28 (0,0))) (hBp:w.heap[Bp]?=some (.cells #[.func (.func f) #[] #[]] 205 (0,0)))
  (hlo:Bl≠Bo) (hpo:Bp≠Bo) (hBo:Bo < w.heap.size) (hfr:∀ b,¬ FrO Bo w b) (hB:B<=w.heap.size) (hc:Cs w B A L) :
  SeqNx (FrO Bo) Fence.wide n Tryz.prog 235 #[.pointer (some ⟨Bl,0,none⟩),.pointer (some ⟨Bp,0,none⟩)] (fun x:Int=>#[Value.int .i64 x]) (Kq B Bo) (fun pre x=>pre.length < T∧x=ordW L r pre.length) (fun ys=>ys=orderTo L r T) (fun _=>True) w:=fun l J Jx W hW hJ hY h0=>by
 have h1:Bl < w.heap.size:=(Array.getElem?_eq_some_iff.1 hBl).1
 have h2:Bp < w.heap.size:=(Array.getElem?_eq_some_iff.1 hBp).1
 have hs:=hW.size
 exact unitsBy1_in n hn r f hf l Bl Bp Bo B cap A L hok T hT hcap J Jx W hY hJ ((hW.block Bl h1).trans hBl) ((hW.block Bp h2).trans hBp) hlo hpo (by omega) (fun b hb=>hfr b (FrO.congr hW hBo hb)) (by omega) (hc.below (hW.mono hB)) h0
theorem c_iOrderBy (L:List (Int×Int)) (A:Option Addr) (c:Nat) (r:Int) (w:World) (hA:Cs w w.heap.size A L) (hcap:L.length<=c) (hn:L.length<=140737488351232) :
  Calls Tryz.prog 174 #[.slice A L.length c,.int .i64 r] w fun e w'=>∃ v,e=.returned v∧IO w' w.heap.size v (orderR L r)∧Below w.heap.size w w':=by
 have HC:=Lib.hid (c_iCustomersOk L A c w hA hn)
 have HK:=Lib.hid (fun W=>c_within r 0 3 W)
 by_cases hp:byOk L r=true
 ·have HV:=Lib.hid (orderR_yes hp)
  obtain ⟨hok,hr⟩:cOk L=true∧decide (0<=r∧r<=3)=true:=by simpa [byOk] using hp
  obtain ⟨T,hT,hT2⟩:=lastLeave_nat hok
  have HT:=Lib.hid hT
  have HR:=Lib.hid hr
  have H:=Lib.hid hok
  have hlen:=cOk_len hok
  have hr4:r=0∨r=1∨r=2∨r=3:=by have:=of_decide_eq_true hr;omega
  obtain ⟨f,hf,hix⟩:∃ f:Nat,ruleF r f∧∀ w:World,(Instr.index 206 (.agg #[.func (.func 239) #[] #[],.func (.func 240) #[] #[],.func (.func 241) #[] #[],.func (.func 242) #[] #[]]) (.int .i64 r)).run Tryz.prog w=.ok (.func (.func f) #[] #[]) w:=by
   rcases hr4 with rfl | rfl | rfl | rfl
   ·exact ⟨_,.inl ⟨rfl,rfl⟩,fun _=>by kernel_rfl⟩
   ·exact ⟨_,.inr (.inl ⟨rfl,rfl⟩),fun _=>by kernel_rfl⟩
   ·exact ⟨_,.inr (.inr (.inl ⟨rfl,rfl⟩)),fun _=>by kernel_rfl⟩
   ·exact ⟨_,.inr (.inr (.inr ⟨rfl,rfl⟩)),fun _=>by kernel_rfl⟩
  have HF:=Lib.hid hf
  clear hp hok hr hT hr4 hf
  refine (callsIn_wide (n:=6)).1 ?_
  refine callsIn_of_wp_marks Tryz.func174 rfl trivial ?_ rfl
  simp only [Tryz.ntmps174,List.size_toArray,List.length_cons,List.length_nil,Nat.reduceAdd,Nat.reduceSub,Array.replicate_succ,Array.replicate_zero,List.push_toArray,List.append_toArray,List.nil_append,List.cons_append]
  gi_wp2_with (refine ⟨trivial,?_⟩;gi_at_call 61;refine (callsIn_wide.2 HC.out).mono ?_;rw [H.out];rintro e w1 ⟨rfl,hb1⟩)
  have HKt:Hid (∀ W:World,Calls Tryz.prog 55 #[.int .i64 r,.int .i64 0,.int .i64 3] W fun e w'=>e=.returned (.bool true)∧W=w'):=fun W=>by have K:=HK.out W;rw [HR.out] at K;exact K
  gi_wp2_with (refine ⟨trivial,?_⟩;gi_at_call 55;refine (callsIn_wide.2 (HKt.out _)).mono ?_;rintro e w' ⟨rfl,rfl⟩)
  have bO:=Boxed.new w1 85 (.slice none 0 0)
  have hs1:=hb1.size
  gi_wp2_with (refine ⟨trivial,?_⟩;gi_at_call 204;refine (callsIn_wide.2 (c_ruleTable _)).mono ?_;rintro e w2 ⟨rfl,hb2⟩)
  have hs2:=hb2.size
  simp only [World.size_alloc] at hs2
  have bO2:Boxed w2 w1.heap.size 85 (.slice none 0 0):=(hb2.block _ (by simp)).trans bO
  have hbx:Below w.heap.size w w2:=(hb1.alloc hs1 _).trans (hb2.mono (by simp;omega))
  clear bO hb2 hb1
  gi_wp2_with (refine ⟨trivial,?_⟩;gi_at_call 203;refine (unitsBy_in _ _ _ _ _ _).mono ?_;rintro e w' ⟨rfl,rfl⟩)
  obtain ⟨W0,hW0⟩:∃ W0,(w2.alloc (.cells #[.slice A L.length c] 28)).alloc (.cells #[.func (.func f) #[] #[]] 205)=W0:=⟨_,rfl⟩
  have bO0:=(bO2.alloc (.cells #[.slice A L.length c] 28)).alloc (.cells #[.func (.func f) #[] #[]] 205)
  have bL0:((w2.alloc (.cells #[.slice A L.length c] 28)).alloc (.cells #[.func (.func f) #[] #[]] 205)).heap[w2.heap.size]?=some (.cells #[.slice A L.length c] 28 (0,0)):=(Below.heap_alloc _ _ _ (by simp)).trans (heap_alloc_new _ _)
  have bP0:((w2.alloc (.cells #[.slice A L.length c] 28)).alloc (.cells #[.func (.func f) #[] #[]] 205)).heap[w2.heap.size+1]?=some (.cells #[.func (.func f) #[] #[]] 205 (0,0)):=heap_new2' _ _ _
  have hB0:Below w.heap.size w ((w2.alloc (.cells #[.slice A L.length c] 28)).alloc (.cells #[.func (.func f) #[] #[]] 205)):=(hbx.alloc (by omega) _).alloc (by simp;omega) _
  have hsz:((w2.alloc (.cells #[.slice A L.length c] 28)).alloc (.cells #[.func (.func f) #[] #[]] 205)).heap.size=w2.heap.size+2:=by simp
  rw [hW0] at bO0 bL0 bP0 hB0 hsz ⊢
  have hfr0:∀ b,¬ FrO w1.heap.size W0 b:=by
   rintro b ⟨v,h1,h2⟩
   rw [bO0.cell] at h1
   cases h1
   simp [Value.ownBlock] at h2
  clear hW0 bO2 hbx
  refine rangeFunc_nx rfl (by omega) (gf:=235) (lb:=#[.pointer (some ⟨w2.heap.size,0,none⟩),.pointer (some ⟨w2.heap.size+1,0,none⟩)]) rfl trivial (enters_of Tryz.func235 (by kernel_rfl) rfl)
   (unitsBy_nx _ (by omega) r f HF.out w2.heap.size (w2.heap.size+1) w1.heap.size w.heap.size c A L H.out T HT.out hcap W0 bL0 bP0 (by omega) (by omega) (by omega) hfr0 (by omega) (hA.below hB0)) Kq.t (Kq.b (by omega) (by omega)) (Below.refl _ _) (fun _=>rfl)
   (fun (pre:List Int) W=>(∃ v,Boxed W w1.heap.size 85 v∧IO W (w1.heap.size+1) v pre)∧(Below w.heap.size w W∧W0.heap.size<=W.heap.size))
   (fun _ _ _=>False) ?own (fun _ _ _ _ _ h _ _=>h) ⟨⟨_,bO0,IO.nil _ _⟩,hB0,Nat.le_refl _⟩
   (fun x=>{ tmps:=#[.slice A L.length c,.int .i64 r,undef,undef,.slice none 0 0,.pointer (some ⟨w1.heap.size,0,none⟩),.int .i64 x,.slice A L.length c,.bool true,.bool false,.bool false,.int .i64 r,.bool true,.bool false,.bool false,.slice A L.length c,.agg #[.func (.func 239) #[] #[],.func (.func 240) #[] #[],.func (.func 241) #[] #[],.func (.func 242) #[] #[]],.int .i64 r,.func (.func f) #[] #[],.func (.func 235) #[] #[.pointer (some ⟨w2.heap.size,0,none⟩),.pointer (some ⟨w2.heap.size+1,0,none⟩)],.int .i64 x,undef,undef,undef,undef,undef],defers:=[] })
   ?assign ?body ?done ?stop
  case own =>
   rintro pre W W' row ⟨⟨v,bO,hown⟩,hB1,hZ⟩ hg hrow
   refine ⟨⟨v,bO.kept hg (fun e=>by have:=(hrow _ e.symm).1;omega),hown.kept hg (fun b hv e=>?_)⟩,hB1.grown hg (by omega) (fun k e=>by have:=(hrow k e).1;omega),by have:=hg.size;omega⟩
   obtain ⟨_,o,ho,hno⟩:=hrow b e
   obtain ⟨o2,ho2,hc2⟩:=hown.cellsObj b hv
   rw [ho] at ho2;cases ho2
   exact hno hc2 ⟨v,bO.cell,hv⟩
  case assign =>
   rintro l x W K hK
   gi_wp2
   exact hK
  case body =>
   rintro l pre x W ⟨⟨v,bO,hown⟩,hB1,hZ⟩ ⟨hpl,hx⟩
   have cO:=bO.cell
   have fO:=bO.frozen
   have hob:=owns_base hown
   obtain ⟨O5,c5,rfl,-,-,-⟩:=hown.form
   have q5:pre.length<=1000000000000:=by omega
   have q6:w1.heap.size+1<=(W.alloc (.cells #[.int .i64 x] 3)).heap.size:=by simp;omega
   have bOa:=bO.alloc (.cells #[.int .i64 x] 3)
   clear hx
   gi_wp2_with (refine appIn_I ?_ (.tmp 21) (.tmp 23) ?_ (w1.heap.size+1) (.slice O5 pre.length c5) pre x W.heap.size ?_ ?_ ?_ ?_ ?_ ?_ ?_;rfl;rfl;rfl;exact (hown.alloc _);rfl;exact (heap_alloc_new _ _);exact q5;exact q6;intro g7 cap7 w7 hown7 hgr7 hor7;have bO7:=bOa.kept hgr7 (fun e=>by have:=hob _ e.symm;omega);have cO7:=bO7.cell;have fO7:=bO7.frozen)
   have hza:=hgr7.size
   simp only [World.size_alloc] at hza
   have hbW:Below w.heap.size W (w7.setCell ⟨w1.heap.size,0,none⟩ (.slice (some ⟨g7,0,none⟩) (pre.length+1) cap7)):=(((Below.refl _ W).alloc (by omega) _).grown hgr7 (by simp;omega) (fun k e=>by have:=hob k e;omega)).setCell (p:=⟨w1.heap.size,0,none⟩) (by simp;omega) _
   have hzs:(w7.setCell ⟨w1.heap.size,0,none⟩ (.slice (some ⟨g7,0,none⟩) (pre.length+1) cap7)).heap.size=w7.heap.size:=by simp [World.setCell]
   refine ⟨(((KeepsOthers.of_grownBy (World.grownBy_alloc W _ none) (fun j o e ho=>by cases e)).trans (KeepsOthers.of_grownBy hgr7 (fun j o e ho=>by
    obtain ⟨o2,ho2,hc2⟩:=(hown.alloc (.cells #[.int .i64 x] 3)).cellsObj j e
    rw [ho] at ho2;cases ho2;exact hc2))).trans (KeepsOthers.setCell _ _ _)).from _,⟨hbW,?_,?_⟩,⟨_,bO7.set _,?_⟩,hB1.trans hbW,by omega⟩
   ·intro b o ho hco hne hfb
    have hlt:=(Array.getElem?_eq_some_iff.1 ho).1
    refine (Below.heap_setCell _ _ _ _ hne).trans ((hgr7.block b (by simp;omega) fun e=>hfb ⟨_,cO,e.symm⟩).trans ((Below.heap_alloc _ _ _ hlt).trans ho))
   ·rintro b ⟨v2,h1,h2⟩
    rw [(bO7.set _).cell] at h1
    cases h1
    have e:g7=b:=by simpa [Value.ownBlock] using h2
    subst e
    rcases hor7 with h | h
    ·exact .inl ⟨_,cO,h⟩
    ·right;rw [h];simp
   ·exact hown7.kept (grownBy_setCell' _ _ _) (fun b hv e=>by have:=owns_base hown7 b hv;cases e;omega)
  case done =>
   rintro D ys W hD hys ⟨⟨v,bO,hown⟩,hB1,hZ⟩ hK
   have cO:=bO.cell
   rw [hys] at hown
   have hco:=hown.cellsObj
   obtain ⟨O5,c5,rfl,-,-,-⟩:=hown.form
   gi_wp2
   refine ⟨by simp,.inl ⟨_,_,rfl,run_takeDeferred hK,?_⟩⟩
   refine ⟨_,results_tmp rfl _ _ _,_,rfl,?_,hB1.trans (belowK_b (w:=w) (Nat.le_refl _) W D _ _ (by omega) hK rfl rfl)⟩
   rw [HV.out,HT.out,show ((T:Int)).toNat=T by simp]
   exact (hown.mono (by omega)).kept (grownBy_putObj' W D _) (fun b hv e=>by
    cases e
    obtain ⟨o,ho,hc⟩:=hco _ hv
    rw [hK] at ho;cases ho;cases hc)
  case stop =>
   rintro D cd pre W _ _ h _
   exact h.elim
 ·have hno:byOk L r=false:=by simpa using hp
  have HV:=Lib.hid (orderR_no hno)
  by_cases h:cOk L=true
  ·have hr:decide (0<=r∧r<=3)=false:=by simpa [byOk,h] using hno
   have H:=Lib.hid h
   have HKt:Hid (∀ W:World,Calls Tryz.prog 55 #[.int .i64 r,.int .i64 0,.int .i64 3] W fun e w'=>e=.returned (.bool false)∧W=w'):=fun W=>by have K:=HK.out W;rw [hr] at K;exact K
   clear hp hno hr h
   go_enter Tryz.func174,Tryz.ntmps174
   go_wp2_with fail
   refine HC.out.mono ?_
   rintro e w1 ⟨rfl,hb1⟩
   rw [H.out]
   go_wp2_with fail
   refine (HKt.out _).mono ?_
   rintro e w' ⟨rfl,rfl⟩
   go_wp2_with fail
   go_ret
   exact ⟨_,rfl,by rw [HV.out];exact IO.nil _ _,hb1⟩
  ·have hno2:cOk L=false:=by simpa using h
   have H:=Lib.hid hno2
   clear hp hno h hno2
   go_enter Tryz.func174,Tryz.ntmps174
   go_wp2_with fail
   refine HC.out.mono ?_
   rintro e w1 ⟨rfl,hb1⟩
   rw [H.out]
   go_wp2_with fail
   go_ret
   exact ⟨_,rfl,by rw [HV.out];exact IO.nil _ _,hb1⟩
end
section
attribute [local go_sem ↓] Go.wp_at_zero Go.wp_at_succ
theorem c_plus (a b:Int) (w:World) (h1:-1000000<=a∧a<=1000000) (h2:-1000000<=b∧b<=1000000) :
  Calls Tryz.prog 207 #[.int .i64 a,.int .i64 b] w fun e w'=>e=.returned (.int .i64 (a+b))∧Below w.heap.size w w':=by
 obtain ⟨p1,p2⟩:=h1
 obtain ⟨p3,p4⟩:=h2
 go_enter Tryz.func207,Tryz.ntmps207
 go_wp2
 go_ret
 exact ⟨rfl,Below.refl _ _⟩
theorem c_timeUntil (x y e:Int) (w:World) (h1:-1000<=x∧x<=1000) (h2:-1000<=e∧e<=1000) :
  Calls Tryz.prog 206 #[.agg #[.int .i64 x,.int .i64 y],.int .i64 e] w fun r w'=>r=.returned (.int .i64 (e - x))∧Below w.heap.size w w':=by
 obtain ⟨p1,p2⟩:=h1
 obtain ⟨p3,p4⟩:=h2
 go_enter Tryz.func206,Tryz.ntmps206
 go_wp2
 go_ret
 exact ⟨rfl,by (repeat (first | exact rfl | exact Below.refl _ _ | (with_reducible refine Below.drew ?_) | (with_reducible refine Below.drewN ?_ _) | (with_reducible refine Below.alloc ?_ ?_ _) | (with_reducible refine Below.setCell ?_ ?_ _) | (show _<=_;focus (first | omega | (simp;done) | (simp;omega)))))⟩
def rowN (num:Nat->Int) (n:Nat):List Int:=(List.range n).map num
theorem rowN_len (num:Nat->Int) (n:Nat):(rowN num n).length=n:=by simp [rowN]
theorem rowN_succ (num:Nat->Int) (n:Nat):rowN num (n+1)=rowN num n++[num n]:=by simp [rowN,List.range_succ]
theorem rowN_Z (num:Nat->Int) {n k:Nat} (h:k < n):Z (rowN num n) k=num k:=by simp [Z,rowN,h]
def numF (f:Nat):Prop:=False
 ∨ f=206
 ∨ f=247
theorem c_compared (f:Nat) (hf:numF f) (caps:Array Value) (num:Nat->Int) (L:List (Int×Int)) (E:List Int) (A E0:Option Addr) (c d:Nat) (w:World) (hA:Cs w w.heap.size A L) (hE:Is w w.heap.size E0 E) (he:E.length<=L.length) (hn:L.length<=140737488351232) (he2:E.length<=1000000)
  (hs:∀ k W,k < E.length->Below w.heap.size w W->Calls Tryz.prog f (#[.agg #[.int .i64 (X L k),.int .i64 (Y L k)],.int .i64 (Z E k)]++caps) W fun e w'=>e=.returned (.int .i64 (num k))∧Below W.heap.size W w') :
  Calls Tryz.prog 209 #[.slice A L.length c,.slice E0 E.length d,.func (.func f) #[] caps] w fun e w'=>∃ v,e=.returned v∧IO w' w.heap.size v (rowN num E.length)∧Below w.heap.size w w':=by
 have Hs:=Lib.hid hs;clear hs
 have hm:min (L.length:Int) (E.length:Int)=(E.length:Int):=by omega
 by_cases hlE:(E.length:Int) < (L.length:Int)
 all_goals
  rcases hf with h0
   | rfl
   | rfl
  ·exact h0.elim
  all_goals
   go_enter Tryz.func209,Tryz.ntmps209
   go_wp2_with fail
   go_loopw [7,14] (fun o i wr=>∃ k:Nat,k<=E.length∧i=.int .i64 k∧IO wr w.heap.size o (rowN num k)∧Below w.heap.size w wr) (fun _ i _=>E.length - (intOf i).toNat)
   case atStart=>exact ⟨0,by omega,rfl,IO.nil _ _,Below.refl _ _⟩
   case round =>
    obtain ⟨k,hk,rfl,hown,hb⟩:=hrel
    have hsz:=hb.size
    by_cases hlt:k < E.length
    ·obtain ⟨b,off,rfl,hlb,hc⟩:=hA (by omega)
     obtain ⟨b2,off2,rfl,hlb2,hc2⟩:=hE (by omega)
     have c1:=(hb.cell (p:=⟨b,off+k * 2,none⟩) hlb).trans (hc k (by omega)).1
     have c2:=(hb.cell (p:=⟨b,off+k * 2+1,none⟩) hlb).trans (hc k (by omega)).2
     have c3:=(hb.cell (p:=⟨b2,off2+k,none⟩) hlb2).trans (hc2 k hlt)
     have hlw:b < wr.heap.size:=by omega
     have hlw2:b2 < wr.heap.size:=by omega
     have p1:(0:Int)<=(k:Int):=by omega
     have p2:(k:Int) < (E.length:Int):=by omega
     have p3:(k:Int) < (L.length:Int):=by omega
     have q5:(rowN num k).length<=1000000000000:=by rw [rowN_len];omega
     clear hc hc2
     have HC:=Lib.hid (Hs.out k wr.drew hlt hb.drew)
     go_wp2_with fail
     go_region_held3 (fun w'=>w'.cell? ⟨b,off+k * 2,none⟩=some (.int .i64 (X L k))∧w'.cell? ⟨b,off+k * 2+1,none⟩=some (.int .i64 (Y L k))∧w'.cell? ⟨b2,off2+k,none⟩=some (.int .i64 (Z E k)))
      (first
        | go_keep
        | exact ⟨(hb5.cell (p:=⟨b,_,none⟩) hlw).trans c1,(hb5.cell (p:=⟨b,_,none⟩) hlw).trans c2,(hb5.cell (p:=⟨b2,_,none⟩) hlw2).trans c3⟩
        | exact ⟨(hb6.cell (p:=⟨b,_,none⟩) hlb).trans (((hb5.alloc hb5.size _).cell (p:=⟨b,_,none⟩) hlw).trans c1),(hb6.cell (p:=⟨b,_,none⟩) hlb).trans (((hb5.alloc hb5.size _).cell (p:=⟨b,_,none⟩) hlw).trans c2),(hb6.cell (p:=⟨b2,_,none⟩) hlb2).trans (((hb5.alloc hb5.size _).cell (p:=⟨b2,_,none⟩) hlw2).trans c3)⟩)
      (first
        | (refine HC.out.mono ?_;rintro e w5 ⟨rfl,hb5⟩)
        | (refine step_I (by rfl) (.tmp 17) (.tmp 28) (by rfl) w.heap.size u7 (rowN num k) (num k) w5.heap.size (by rfl) ((hown.drew.below hb5 (Nat.le_refl _)).alloc _) (by rfl) (heap_alloc_new _ _) q5 ?_ ?_;(have h56:=hb5.size;simp at h56 ⊢;omega);intro g cap w6 hown6 hgr hb6))
     go_wp2_with fail
     go_roundw
     case rel =>
      refine ⟨k+1,by omega,by go_num,by rw [rowN_succ];exact hown6,?_⟩
      refine Below.trans ?_ hb6
      refine Below.alloc ?_ (by have h56:=hb5.size;simp at h56 ⊢;omega) _
      exact hb.drew.trans (hb5.mono hsz)
     case measure=>simp [intOf];omega
    ·have p2:¬ (k:Int) < (E.length:Int):=by omega
     have p3:(L.length:Int)=(E.length:Int)∨(E.length:Int) < (L.length:Int):=by omega
     obtain rfl:k=E.length:=by omega
     go_wp2_with fail
     go_ret
     exact ⟨_,rfl,hown,hb⟩
def stepF (s:Nat):Prop:=False
 ∨ s=207
theorem c_foldII (s:Nat) (hf:stepF s) (acc:Nat->Int) (E:List Int) (A:Option Addr) (c:Nat) (w:World) (hE:Is w w.heap.size A E) (hn:E.length<=1000000)
  (hs:∀ k W,k < E.length->Calls Tryz.prog s #[.int .i64 (acc k),.int .i64 (Z E k)] W fun e w'=>e=.returned (.int .i64 (acc (k+1)))∧Below W.heap.size W w') :
  Calls Tryz.prog 211 #[.slice A E.length c,.int .i64 (acc 0),.func (.func s) #[] #[]] w fun e w'=>e=.returned (.int .i64 (acc E.length))∧Below w.heap.size w w':=by
 have Hs:=Lib.hid hs;clear hs
 rcases hf with h0
  | rfl
 ·exact h0.elim
 all_goals
  go_enter Tryz.func211,Tryz.ntmps211
  go_wp2_with fail
  go_loopw [7,13] (fun a i wr=>∃ k:Nat,k<=E.length∧i=.int .i64 k∧a=.int .i64 (acc k)∧Below w.heap.size w wr) (fun _ i _=>E.length - (intOf i).toNat)
  case atStart=>exact ⟨0,Nat.zero_le _,rfl,rfl,Below.refl _ _⟩
  case round =>
   obtain ⟨k,hk,rfl,rfl,hb⟩:=hrel
   by_cases hlt:k < E.length
   ·obtain ⟨b,off,rfl,hlb,hc⟩:=hE (by omega)
    have c1:=(hb.cell (p:=⟨b,off+k,none⟩) hlb).trans (hc k hlt)
    clear hc
    have hsz:=hb.size
    go_wp2_with fail
    refine (Hs.out k _ hlt).mono ?_
    rintro e w1 ⟨rfl,hb1⟩
    go_wp2_with fail
    go_roundw
    case rel=>exact ⟨k+1,by omega,by go_num,rfl,hb.trans (hb1.mono hsz)⟩
    case measure=>simp [intOf];omega
   ·go_wp2_with fail
    go_ret
    obtain rfl:k=E.length:=by omega
    exact ⟨rfl,hb⟩
end
section
attribute [local go_sem ↓] Go.wp_at_zero Go.wp_at_succ
def foldV (L:List (Int×Int)) (o:List Int) (acc:Nat->Int):Int:=if ordOk L o=true then acc L.length else -1
theorem c_foldEnds (f s:Nat) (hf:numF f) (hs:stepF s) (caps:Array Value) (num acc:Nat->Int) (h0:acc 0=0) (L:List (Int×Int)) (o:List Int) (A O:Option Addr) (c d:Nat) (w:World)
  (hA:Cs w w.heap.size A L) (hO:Is w w.heap.size O o) (hn:L.length<=140737488351232) (ho:o.length<=140737488351232)
  (hnum:ordOk L o=true->∀ k W,k < L.length->Below w.heap.size w W->Calls Tryz.prog f (#[.agg #[.int .i64 (X L k),.int .i64 (Y L k)],.int .i64 (endTo o k o.length)]++caps) W fun e w'=>e=.returned (.int .i64 (num k))∧Below W.heap.size W w')
  (hstep:ordOk L o=true->∀ k W,k < L.length->Calls Tryz.prog s #[.int .i64 (acc k),.int .i64 (num k)] W fun e w'=>e=.returned (.int .i64 (acc (k+1)))∧Below W.heap.size W w') :
  Calls Tryz.prog 205 #[.slice A L.length c,.slice O o.length d,.func (.func f) #[] caps,.func (.func s) #[] #[]] w fun e w'=>e=.returned (.int .i64 (foldV L o acc))∧Below w.heap.size w w':=by
 have HK:=Lib.hid (c_iOrderOk L o A O c d w hA hO hn ho)
 by_cases hok:ordOk L o=true
 ·have H:=Lib.hid hok
  have hlen:=cOk_len (ordOk_parts hok).1
  have hel:(ends L o).length=L.length:=by rw [ends_yes hok,endsL_len]
  have HL:=Lib.hid hel
  have HN:=Lib.hid (show ∀ k W,k < (ends L o).length->Below w.heap.size w W->Calls Tryz.prog f (#[.agg #[.int .i64 (X L k),.int .i64 (Y L k)],.int .i64 (Z (ends L o) k)]++caps) W fun e w'=>e=.returned (.int .i64 (num k))∧Below W.heap.size W w' from by
   intro k W hk hb
   rw [hel] at hk
   rw [ends_yes hok,endsL_Z hk]
   exact hnum hok k W hk hb)
  have HS:=Lib.hid (show ∀ k W,k < (rowN num (ends L o).length).length->Calls Tryz.prog s #[.int .i64 (acc k),.int .i64 (Z (rowN num (ends L o).length) k)] W fun e w'=>e=.returned (.int .i64 (acc (k+1)))∧Below W.heap.size W w' from by
   intro k W hk
   rw [rowN_len] at hk
   rw [rowN_Z num hk]
   rw [hel] at hk
   exact hstep hok k W hk)
  have HE:=Lib.hid (fun (w':World) (hb:Below w.heap.size w w')=>c_iEndsOf L o A O c d w' ((hA.below hb).more hb.size) ((hO.below hb).more hb.size) hn ho)
  have HC:=Lib.hid (fun (B:Option Addr) (b:Nat) (w':World) (hb:Below w.heap.size w w') (hB:Is w' w'.heap.size B (ends L o))=>c_compared f hf caps num L (ends L o) A B c b w' ((hA.below hb).more hb.size) hB (by rw [hel];omega) (by omega) (by rw [hel];omega) (fun k W hk hW=>HN.out k W hk (hb.trans (hW.mono hb.size))))
  have HF:=Lib.hid (fun (B:Option Addr) (b:Nat) (w':World) (hB:Is w' w'.heap.size B (rowN num (ends L o).length))=>c_foldII s hs acc (rowN num (ends L o).length) B b w' hB (by rw [rowN_len,hel];omega) HS.out)
  have H0:=Lib.hid h0
  clear hok hel hnum hstep h0 HN HS
  go_enter Tryz.func205,Tryz.ntmps205
  go_wp2_with fail
  refine HK.out.mono ?_
  rintro e w1 ⟨rfl,hb1⟩
  rw [H.out]
  clear HK
  go_wp2_with fail
  refine (HE.out _ hb1).mono ?_
  rintro e w2 ⟨v2,rfl,o2,hb2⟩
  have hx2:=hb1.trans (hb2.mono hb1.size)
  obtain ⟨E2,e2,rfl,-,-,hE2⟩:=o2.form
  go_wp2_with fail
  refine (HC.out _ _ _ hx2 hE2).mono ?_
  rintro e w3 ⟨v3,rfl,o3,hb3⟩
  have hx3:=hx2.trans (hb3.mono hx2.size)
  obtain ⟨E3,e3,rfl,-,-,hE3⟩:=o3.form
  have HF3:=HF.out E3 e3 w3 hE3
  rw [H0.out] at HF3
  go_wp2_with fail
  refine HF3.mono ?_
  rintro e w4 ⟨rfl,hb4⟩
  go_wp2_with fail
  go_ret
  exact ⟨by rw [rowN_len,HL.out,foldV,if_pos H.out];rfl,hx3.trans (hb4.mono hx3.size)⟩
 ·have hno:ordOk L o=false:=by simpa using hok
  have H:=Lib.hid hno
  clear hok hno hnum hstep
  go_enter Tryz.func205,Tryz.ntmps205
  go_wp2_with fail
  refine HK.out.mono ?_
  rintro e w1 ⟨rfl,hb1⟩
  rw [H.out]
  go_wp2_with fail
  go_ret
  exact ⟨by rw [foldV,H.out];rfl,hb1⟩
theorem c_iTimesOf (L:List (Int×Int)) (o:List Int) (A O:Option Addr) (c d:Nat) (w:World) (hA:Cs w w.heap.size A L) (hO:Is w w.heap.size O o) (hn:L.length<=140737488351232) (ho:o.length<=140737488351232) :
  Calls Tryz.prog 195 #[.slice A L.length c,.slice O o.length d] w fun e w'=>∃ v,e=.returned v∧IO w' w.heap.size v (timesR L o)∧Below w.heap.size w w':=by
 have HE:=Lib.hid (c_iEndsOf L o A O c d w hA hO hn ho)
 have HC:=Lib.hid (fun (B:Option Addr) (b:Nat) (w':World) (hb:Below w.heap.size w w') (hB:Is w' w'.heap.size B (ends L o))=>show Calls Tryz.prog 209 #[.slice A L.length c,.slice B (ends L o).length b,.func (.func 206) #[] #[]] w' fun e w''=>∃ v,e=.returned v∧IO w'' w'.heap.size v (timesR L o)∧Below w'.heap.size w' w'' from by
  by_cases hok:ordOk L o=true
  ·have hc:=(ordOk_parts hok).1
   have hlen:=cOk_len hc
   have hel:(ends L o).length=L.length:=by rw [ends_yes hok,endsL_len]
   have K:=c_compared 206 (by simp [numF]) #[] (fun k=>endTo o k o.length - X L k) L (ends L o) A B c b w' ((hA.below hb).more hb.size) hB (by omega) (by omega) (by omega) (fun k W hk hW=>by
    rw [hel] at hk
    rw [ends_yes hok,endsL_Z hk]
    have hb1:=cOk_bd hc hk
    have hb2:=time_bd hok hk
    exact c_timeUntil _ _ _ W (by omega) (by omega))
   rw [timesR_yes hok]
   have e:rowN (fun k=>endTo o k o.length - X L k) (ends L o).length=timeL L o L.length:=by rw [hel];rfl
   rw [e] at K
   exact K
  ·have hno:ordOk L o=false:=by simpa using hok
   have hel:(ends L o).length=0:=by rw [ends_no hno];rfl
   have K:=c_compared 206 (by simp [numF]) #[] (fun k=>endTo o k o.length - X L k) L (ends L o) A B c b w' ((hA.below hb).more hb.size) hB (by omega) (by omega) (by omega) (fun k W hk hW=>by omega)
   rw [timesR_no hno]
   rw [hel] at K ⊢
   exact K)
 have H0:=hA
 clear hA hO
 go_enter Tryz.func195,Tryz.ntmps195
 go_wp2_with fail
 refine HE.out.mono ?_
 rintro e w2 ⟨v2,rfl,o2,hb2⟩
 obtain ⟨E2,e2,rfl,-,-,hE2⟩:=o2.form
 go_wp2_with fail
 refine (HC.out _ _ _ hb2 hE2).mono ?_
 rintro e w3 ⟨v3,rfl,o3,hb3⟩
 go_wp2_with fail
 go_ret
 exact ⟨_,rfl,o3.mono hb2.size,hb2.trans (hb3.mono hb2.size)⟩
theorem foldV_of {L:List (Int×Int)} {o:List Int} {acc:Nat->Int} {v:Int} (h1:ordOk L o=true->v=acc L.length) (h2:ordOk L o=false->v=-1):foldV L o acc=v:=by
 unfold foldV
 cases h:ordOk L o with
 | true=>rw [if_pos rfl,h1 h]
 | false=>rw [if_neg (by simp),h2 h]
theorem c_iSumOf (L:List (Int×Int)) (o:List Int) (A O:Option Addr) (c d:Nat) (w:World) (hA:Cs w w.heap.size A L) (hO:Is w w.heap.size O o) (hn:L.length<=140737488351232) (ho:o.length<=140737488351232) :
  Calls Tryz.prog 175 #[.slice A L.length c,.slice O o.length d] w fun e w'=>e=.returned (.int .i64 (sumV L o))∧Below w.heap.size w w':=by
 have K:=c_foldEnds 206 207 (by simp [numF]) (by simp [stepF]) #[] (fun k=>endTo o k o.length - X L k) (tmTo L o) rfl L o A O c d w hA hO hn ho
  (fun hok k W hk _=>by
    have hb1:=cOk_bd (ordOk_parts hok).1 hk
    have hb2:=time_bd hok hk
    exact c_timeUntil _ _ _ W (by omega) (by omega))
  (fun hok k W hk=>by
    have hl:=cOk_len (ordOk_parts hok).1
    have hb1:=tmTo_bd hok k (by omega)
    have hb3:=cOk_bd (ordOk_parts hok).1 hk
    have hb2:=time_bd hok hk
    exact c_plus _ _ W (by omega) (by omega))
 rw [foldV_of (v:=sumV L o) (fun h=>sumV_yes h) (fun h=>sumV_no h)] at K
 have HK:=Lib.hid K
 clear K hA hO
 go_enter Tryz.func175,Tryz.ntmps175
 go_wp2_with fail
 refine HK.out.mono ?_
 rintro e w1 ⟨rfl,hb1⟩
 go_wp2_with fail
 go_ret
 exact ⟨rfl,hb1⟩
theorem sum_least_is (L:List (Int×Int)):sumV L (orderR L 2)=leastV L:=by
 cases hc:cOk L with
 | true =>
  obtain ⟨T,hT,_⟩:=lastLeave_nat hc
  rw [leastV_yes hc,sumV_yes]
  rw [orderR_two hc (by omega) hT]
  exact orderTo_ok hc 2 hT
 | false=>rw [leastV_no hc,sumV_no (ordOk_cust hc)]
theorem c_iLeastSum (L:List (Int×Int)) (A:Option Addr) (c:Nat) (w:World) (hA:Cs w w.heap.size A L) (hcap:L.length<=c) (hn:L.length<=140737488351232) :
  Calls Tryz.prog 171 #[.slice A L.length c] w fun e w'=>e=.returned (.int .i64 (leastV L))∧Below w.heap.size w w':=by
 have HO:=Lib.hid (c_iOrderBy L A c 2 w hA hcap hn)
 have hol:(orderR L 2).length<=140737488351232:=by
  cases hc:cOk L with
  | true =>
   obtain ⟨T,hT,hT2⟩:=lastLeave_nat hc
   rw [orderR_two hc (by omega) hT,orderTo_len];omega
  | false=>rw [orderR_no (by simp [byOk,hc])];simp
 have HS:=Lib.hid (fun (B:Option Addr) (b:Nat) (w':World) (hb:Below w.heap.size w w') (hB:Is w' w'.heap.size B (orderR L 2))=>c_iSumOf L (orderR L 2) A B c b w' ((hA.below hb).more hb.size) hB hn hol)
 clear hA hol
 go_enter Tryz.func171,Tryz.ntmps171
 go_wp2_with fail
 refine HO.out.mono ?_
 rintro e w1 ⟨v1,rfl,o1,hb1⟩
 obtain ⟨E2,e2,rfl,-,-,hE2⟩:=o1.form
 go_wp2_with fail
 refine (HS.out _ _ _ hb1 hE2).mono ?_
 rintro e w2 ⟨rfl,hb2⟩
 go_wp2_with fail
 go_ret
 exact ⟨by rw [<- sum_least_is];rfl,hb1.trans (hb2.mono hb1.size)⟩
end
section
attribute [local go_sem ↓] Go.wp_at_zero Go.wp_at_succ
end
section
attribute [local go_sem ↓] Go.wp_at_zero Go.wp_at_succ
theorem c_iLastTimes (L:List (Int×Int)) (A:Option Addr) (c:Nat) (w:World) (hA:Cs w w.heap.size A L) (hcap:L.length<=c) (hn:L.length<=140737488351232) :
  Calls Tryz.prog 165 #[.slice A L.length c] w fun e w'=>∃ v,e=.returned v∧IO w' w.heap.size v (lastR L)∧Below w.heap.size w w':=by
 have hl:(orderR L 1).length<=200:=by
  cases hp:byOk L 1 with
  | false=>rw [orderR_no hp];simp
  | true =>
   obtain ⟨hc,-⟩:cOk L=true∧decide (0<=(1:Int)∧(1:Int)<=3)=true:=by simpa [byOk] using hp
   obtain ⟨T,hT,hT2⟩:=lastLeave_nat hc
   rw [orderR_yes hp,hT,orderTo_len];omega
 go_enter Tryz.func165,Tryz.ntmps165
 go_wp2_with fail
 refine (c_iOrderBy L A c 1 w hA hcap hn).mono ?_
 rintro e w1 ⟨v1,rfl,o1,hb1⟩
 have hs1:=hb1.size
 obtain ⟨O,d,rfl,-,-,hO⟩:=o1.form
 clear o1
 go_wp2_with fail
 refine (c_iTimesOf L (orderR L 1) A O c d _ ((hA.below hb1).more hs1) hO hn (by omega)).mono ?_
 rintro e w2 ⟨v2,rfl,o2,hb2⟩
 go_wp2_with fail
 go_ret
 exact ⟨_,rfl,o2.mono hs1,hb1.trans (hb2.mono hs1)⟩
end
section
open Go.RowKit Go.Shelf
attribute [local go_sem] Oper.semAt_some
def RingC (w:World) (R:Nat) (p:Nat->Int) (h m:Int):Prop :=
 w.heap[R]?=some (.cells #[.int .i64 (p 0),.int .i64 (p 1),.int .i64 (p 2),.int .i64 (p 3),.int .i64 (p 4),.int .i64 (p 5),.int .i64 (p 6),.int .i64 (p 7),.int .i64 h,.int .i64 m] 229 (0,0))
theorem RingC.head {w:World} {R:Nat} {p:Nat->Int} {h m:Int} (hr:RingC w R p h m):w.cell? ⟨R,8,none⟩=some (.int .i64 h):=cell_of_row w R 8 _ _ _ hr
theorem RingC.many {w:World} {R:Nat} {p:Nat->Int} {h m:Int} (hr:RingC w R p h m):w.cell? ⟨R,9,none⟩=some (.int .i64 m):=cell_of_row w R 9 _ _ _ hr
theorem RingC.place {w:World} {R:Nat} {p:Nat->Int} {h m:Int} (hr:RingC w R p h m) (k:Nat) (hk:k < 8):w.cell? ⟨R,k,none⟩=some (.int .i64 (p k)):=by
 rcases (show k=0∨k=1∨k=2∨k=3∨k=4∨k=5∨k=6∨k=7 by omega) with rfl | rfl | rfl | rfl | rfl | rfl | rfl | rfl <;> exact cell_of_row w R _ _ _ _ hr
theorem RingC.frozen {w:World} {R:Nat} {p:Nat->Int} {h m:Int} (hr:RingC w R p h m) (k:Nat):w.frozen? ⟨R,k,none⟩=false:=by
 unfold RingC at hr;simp only [World.frozen?,hr];rfl
theorem RingC.setP {w:World} {R:Nat} {p:Nat->Int} {h m:Int} (hr:RingC w R p h m) (k:Nat) (hk:k < 8) (x:Int):RingC (w.setCell ⟨R,k,none⟩ (.int .i64 x)) R (fun i=>if i=k then x else p i) h m:=by
 unfold RingC at hr ⊢
 simp only [World.setCell]
 rw [Array.getElem?_modify,if_pos rfl,hr]
 rcases (show k=0∨k=1∨k=2∨k=3∨k=4∨k=5∨k=6∨k=7 by omega) with rfl | rfl | rfl | rfl | rfl | rfl | rfl | rfl <;> rfl
theorem RingC.setH {w:World} {R:Nat} {p:Nat->Int} {h m:Int} (hr:RingC w R p h m) (x:Int):RingC (w.setCell ⟨R,8,none⟩ (.int .i64 x)) R p x m:=by
 unfold RingC at hr ⊢
 simp only [World.setCell]
 rw [Array.getElem?_modify,if_pos rfl,hr]
 rfl
theorem RingC.setM {w:World} {R:Nat} {p:Nat->Int} {h m:Int} (hr:RingC w R p h m) (x:Int):RingC (w.setCell ⟨R,9,none⟩ (.int .i64 x)) R p h x:=by
 unfold RingC at hr ⊢
 simp only [World.setCell]
 rw [Array.getElem?_modify,if_pos rfl,hr]
 rfl
def RingQ (w:World) (R:Nat) (q:List Int):Prop:=∃ (p:Nat->Int) (h:Nat),h < 8∧q.length<=8∧(∀ i,i < q.length->p ((h+i) % 8)=Z q i)∧RingC w R p h q.length
theorem RingQ.congr {w w':World} {R:Nat} {q:List Int} (hr:RingQ w R q) (h:w'.heap[R]?=w.heap[R]?):RingQ w' R q:=by
 obtain ⟨p,hd,h1,h2,h3,h4⟩:=hr
 exact ⟨p,hd,h1,h2,h3,by unfold RingC at h4 ⊢;rw [h,h4]⟩
theorem RingQ.new (w:World):RingQ (w.alloc (.cells #[.int .i64 0,.int .i64 0,.int .i64 0,.int .i64 0,.int .i64 0,.int .i64 0,.int .i64 0,.int .i64 0,.int .i64 0,.int .i64 0] 229)) w.heap.size [] :=
 ⟨fun _=>0,0,by omega,by simp,fun i hi=>by simp at hi,heap_alloc_new _ _⟩
theorem RingQ.obj {w:World} {R:Nat} {q:List Int} (hr:RingQ w R q):∃ o:Obj,w.heap[R]?=some o∧o.isCells=true:=by
 obtain ⟨p,hd,h1,h2,h3,h4⟩:=hr
 exact ⟨_,h4,rfl⟩
theorem c_goBehind (q:List Int) (x:Int) (R:Nat) (w:World) (hr:RingQ w R q) (hl:q.length < 8) :
  Calls Tryz.prog 230 #[.pointer (some ⟨R,0,none⟩),.int .i64 x] w fun e w'=>(∃ v,e=.returned v)∧RingQ w' R (q++[x])∧w.grownBy w' (some R):=by
 obtain ⟨p,h,h1,h2,h3,h4⟩:=hr
 obtain ⟨k,hk⟩:∃ k,(h+q.length) % 8=k:=⟨_,rfl⟩
 have hk8:k < 8:=by omega
 have q1:IntKind.i64.wrap ((h:Int)+(q.length:Int))=(h:Int)+(q.length:Int):=IntWalk.i64_in _ (by omega)
 have q2:IntKind.i64.wrap ((q.length:Int)+1)=(q.length:Int)+1:=IntWalk.i64_in _ (by omega)
 have q3:((h:Int)+(q.length:Int)).tmod 8=(k:Int):=by rw [Int.tmod_eq_emod_of_nonneg (by omega)];omega
 have q4:(0:Int)<=(k:Int):=by omega
 have q5:(k:Int) < 8:=by omega
 have hRs:R < w.heap.size:=(Array.getElem?_eq_some_iff.1 h4).1
 have cs8:=WB.cell (B:=w.heap.size) (w:=w) (b:=R) (o:=8) (v:=.int .i64 (h:Int)) hRs h4.head
 have cs9:=WB.cell (B:=w.heap.size) (w:=w) (b:=R) (o:=9) (v:=.int .i64 (q.length:Int)) hRs h4.many
 have FIN:Hid (∀ w6,Below w.heap.size w w6->∃ w7,w6.setCell ⟨R,k,none⟩ (.int .i64 x)=w7∧w6.cell? ⟨R,k,none⟩=some (.int .i64 (p k))∧w6.frozen? ⟨R,k,none⟩=false∧w7.cell? ⟨R,9,none⟩=some (.int .i64 (q.length:Int))∧w7.frozen? ⟨R,9,none⟩=false ∧
   RingQ (w7.setCell ⟨R,9,none⟩ (.int .i64 ((q.length:Int)+1))) R (q++[x])∧w.grownBy (w7.setCell ⟨R,9,none⟩ (.int .i64 ((q.length:Int)+1))) (some R)):=by
  intro w6 hb6
  have h46:RingC w6 R p h q.length:=(hb6.block R hRs).trans h4
  have h5:=h46.setP k hk8 x
  refine ⟨_,rfl,h46.place k hk8,h46.frozen k,h5.many,h5.frozen 9,⟨_,h,h1,by simp;omega,fun i hi=>?_,by rw [show ((q++[x]).length:Int)=(q.length:Int)+1 by simp];exact h5.setM _⟩,((grown_below (row:=some R) hb6 (Nat.le_refl _)).trans (grown_set w6 R k _)).trans (grown_set _ R 9 _)⟩
  simp only [List.length_append,List.length_singleton] at hi
  by_cases hiq:i < q.length
  ·show (if (h+i) % 8=k then x else p ((h+i) % 8))=Z (q++[x]) i
   rw [if_neg (by omega),h3 i hiq]
   simp only [Z,List.getD_eq_getElem?_getD,List.getElem?_append_left hiq]
  ·obtain rfl:i=q.length:=by omega
   show (if (h+q.length) % 8=k then x else p ((h+q.length) % 8))=Z (q++[x]) q.length
   rw [if_pos hk]
   simp [Z,List.getD_eq_getElem?_getD]
 clear h3 h4 hk
 go_enter Tryz.func230,Tryz.ntmps230
 go_wp2_with fail
 refine wp_region_wb_tail w.heap.size 15 (by kernel_rfl) (by kernel_rfl) ?_
 simp only [List.take_succ_cons,List.take_zero,List.drop_succ_cons,List.drop_zero]
 repeat (go_big_quiet_step (fail))
 refine wpQuiet_nil ?_
 rintro w6 ⟨⟨_,hb6⟩,rfl⟩
 obtain ⟨w7,hw7,ck,fk,d9,f9,hq,hg⟩:=FIN.out _ hb6
 have HQ:=Lib.hid (And.intro hq hg)
 clear hq hg cs8 cs9 hb6
 go_wp2_with fail
 go_end0
 exact ⟨⟨_,rfl⟩,HQ.out.1,HQ.out.2⟩
theorem c_takeHead (q:List Int) (R:Nat) (w:World) (hr:RingQ w R q) :
  Calls Tryz.prog 231 #[.pointer (some ⟨R,0,none⟩)] w fun e w'=>e=.returned (.int .i64 (q.headD (-1)))∧RingQ w' R q.tail∧w.grownBy w' (some R):=by
 cases q with
 | nil =>
  have HR:=Lib.hid hr
  obtain ⟨p,h,h1,h2,h3,h4⟩:=hr
  have c9:w.cell? ⟨R,9,none⟩=some (.int .i64 0):=h4.many
  clear h3 h4
  go_enter Tryz.func231,Tryz.ntmps231
  go_wp2_with fail
  go_ret
  exact ⟨rfl,HR.out,World.grownBy.refl _ _⟩
 | cons x q =>
  obtain ⟨p,h,h1,h2,h3,h4⟩:=hr
  have hm:((x::q).length:Int)=(q.length:Int)+1:=by simp
  rw [hm] at h4
  have h20:q.length<=7:=by simpa using h2
  have hp0:p h=x:=by have:=h3 0 (by simp);rw [Nat.add_zero,Nat.mod_eq_of_lt h1] at this;simpa [Z] using this
  obtain ⟨k,hk⟩:∃ k,(h+1) % 8=k:=⟨_,rfl⟩
  have hk8:k < 8:=by omega
  have q1:IntKind.i64.wrap ((h:Int)+1)=(h:Int)+1:=IntWalk.i64_in _ (by omega)
  have q2:IntKind.i64.wrap ((q.length:Int)+1 - 1)=(q.length:Int):=by rw [show (q.length:Int)+1 - 1=(q.length:Int) by omega];exact IntWalk.i64_in _ (by omega)
  have q2':IntKind.i64.wrap (q.length:Int)=(q.length:Int):=IntWalk.i64_in _ (by omega)
  have q3:((h:Int)+1).tmod 8=(k:Int):=by rw [Int.tmod_eq_emod_of_nonneg (by omega)];omega
  have q4:(0:Int)<=(h:Int):=by omega
  have q5:(h:Int) < 8:=by omega
  have q6:((q.length:Int)+1 == 0)=false:=beq_eq_false_iff_ne.2 (by omega)
  have hRs:R < w.heap.size:=(Array.getElem?_eq_some_iff.1 h4).1
  have cs8:=WB.cell (B:=w.heap.size) (w:=w) (b:=R) (o:=8) (v:=.int .i64 (h:Int)) hRs h4.head
  have csh:=WB.cell (B:=w.heap.size) (w:=w) (b:=R) (o:=h) (v:=.int .i64 x) hRs (by rw [h4.place h h1,hp0])
  have c9:w.cell? ⟨R,9,none⟩=some (.int .i64 ((q.length:Int)+1)):=h4.many
  have FIN:Hid (∀ w6,Below w.heap.size w w6->∃ w7,w6.setCell ⟨R,8,none⟩ (.int .i64 (k:Int))=w7∧w6.cell? ⟨R,8,none⟩=some (.int .i64 (h:Int))∧w6.frozen? ⟨R,8,none⟩=false∧w7.cell? ⟨R,9,none⟩=some (.int .i64 ((q.length:Int)+1))∧w7.frozen? ⟨R,9,none⟩=false ∧
    RingQ (w7.setCell ⟨R,9,none⟩ (.int .i64 (q.length:Int))) R q∧w.grownBy (w7.setCell ⟨R,9,none⟩ (.int .i64 (q.length:Int))) (some R)):=by
   intro w6 hb6
   have h46:RingC w6 R p h ((q.length:Int)+1):=(hb6.block R hRs).trans h4
   have h5:=h46.setH (k:Int)
   refine ⟨_,rfl,h46.head,h46.frozen 8,h5.many,h5.frozen 9,⟨p,k,hk8,by omega,fun i hi=>?_,h5.setM _⟩,((grown_below (row:=some R) hb6 (Nat.le_refl _)).trans (grown_set w6 R 8 _)).trans (grown_set _ R 9 _)⟩
   have:=h3 (i+1) (by simp;omega)
   rw [show (k+i) % 8=(h+(i+1)) % 8 by omega,this]
   simp [Z]
  clear h3 h4 hk hm
  go_enter Tryz.func231,Tryz.ntmps231
  go_wp2_with fail
  refine wp_region_wb w.heap.size (by kernel_rfl) (by kernel_rfl) ?_
  repeat (go_big_quiet_step (fail))
  refine wpQuiet_nil ?_
  rintro w6 ⟨⟨_,hb6⟩,rfl⟩
  obtain ⟨w7,hw7,c8,f8,d9,f9,hq,hg⟩:=FIN.out _ hb6
  have HQ:=Lib.hid (And.intro hq hg)
  clear hq hg cs8 csh c9 hb6
  go_wp2_with fail
  go_ret
  exact ⟨rfl,HQ.out.1,HQ.out.2⟩
theorem c_needsMore (lf:List Int) (G:Option Addr) (BG g:Nat) (who:Int) (w:World) (hG:Is w BG G lf) (hr:who=-1∨∃ p:Nat,who=p∧p < lf.length) (hn:lf.length<=1000000) :
  Calls Tryz.prog 229 #[.slice G lf.length g,.int .i64 who] w fun e w'=>e=.returned (.bool (decide (0<=who∧0 < Z lf who.toNat)))∧w=w':=by
 rcases hr with rfl | ⟨p,rfl,hp⟩
 ·go_enter Tryz.func229,Tryz.ntmps229
  go_wp2_with fail
  go_ret
  exact ⟨rfl,rfl⟩
 ·obtain ⟨gb,go,rfl,-,hgc⟩:=hG (by omega)
  have c0:=hgc p hp
  have p1:(0:Int)<=(p:Int):=by omega
  have p2:(p:Int) < (lf.length:Int):=by omega
  have p3:((p:Int) != -1)=true:=bne_iff_ne.2 (by omega)
  have HV:=Lib.hid (show decide (0<=(p:Int)∧0 < Z lf ((p:Int)).toNat)=decide (0 < Z lf p) by rw [Int.toNat_natCast];exact decide_eq_decide.2 ⟨fun h=>h.2,fun h=>⟨by omega,h⟩⟩)
  clear hgc
  go_enter Tryz.func229,Tryz.ntmps229
  go_wp2_with fail
  go_ret
  exact ⟨by rw [HV.out];rfl,rfl⟩
theorem rr_any {L:List (Int×Int)} (hc:cOk L=true) {T:Nat} (hT:lastLeave L=T) (t:Nat):(!noneLeft (rrLf L t) (rrLf L t).length)=decide (t < T):=by
 obtain ⟨inv,-,-⟩:=rr_inv hc t
 by_cases h:t < T
 ·rw [decide_eq_true h]
  cases hn:noneLeft (rrLf L t) (rrLf L t).length with
  | false=>rfl
  | true =>
   have ok:=ordOk_parts (rr_ok hc hT)
   rw [rrO_len] at ok
   have d:=done_late hc (n:=t) (unitsOk_le ok.2.2.1 (by omega)) fun k hk=>by
    rw [rr_left T (by omega)]
    exact noneLeft_at _ hn k (by rw [inv.len];exact hk)
   omega
 ·rw [decide_eq_false h]
  rw [noneLeft_of _ fun k hk=>by rw [OI.end hc (T:=t) (by omega) inv (by rw [inv.len] at hk;exact hk)];exact Int.le_refl _]
  rfl
theorem rowK_early {L:List (Int×Int)} {t:Nat}:∀ {j:Nat},(∀ k,k < j->X L k < (t:Int))->rowK L t j=rowK L t 0:=by
 intro j
 induction j with
 | zero=>intro _;rfl
 | succ j ih=>intro h;rw [rowK_no (by have:=h j (by omega);omega),ih fun k hk=>h k (by omega)]
theorem rowK_late {L:List (Int×Int)} {t j:Nat} (d:Nat) (h:∀ k,j<=k->k < j+d->(t:Int) < X L k):rowK L t (j+d)=rowK L t j:=by
 induction d with
 | zero=>rfl
 | succ d ih=>rw [<- Nat.add_assoc,rowK_no (by have:=h (j+d) (by omega) (by omega);omega),ih fun k h1 h2=>h k h1 (by omega)]
theorem rowK_le {L:List (Int×Int)} {t j:Nat} (d:Nat):(rowK L t j).length<=(rowK L t (j+d)).length:=by
 induction d with
 | zero=>exact Nat.le_refl _
 | succ d ih =>
  by_cases h:X L (j+d)=t
  ·rw [<- Nat.add_assoc,rowK_yes h];simp;omega
  ·rw [<- Nat.add_assoc,rowK_no h];exact ih
theorem rowK_lt {L:List (Int×Int)} (hc:cOk L=true) {t j:Nat} (hj:j < L.length) (h:X L j=t):(rowK L t j).length < 8:=by
 have a:=rowK_le (L:=L) (t:=t) (j:=j+1) (L.length - (j+1))
 rw [show j+1+(L.length - (j+1))=L.length by omega,rowK_all,rowK_yes h] at a
 have b:=rrQ_len hc t
 simp at a;omega
theorem row_lt {L:List (Int×Int)} (hc:cOk L=true) {t:Nat} {b:Int} (e:rrB L t=b) (h:0<=b∧0 < Z (rrLf L t) b.toNat):(rrRow L t).length < 8:=by
 have a:=rowK_le (L:=L) (t:=t) (j:=0) L.length
 rw [Nat.zero_add,rowK_all,rowK_zero e h] at a
 have b:=rrQ_len hc t
 simp at a;omega
end
end Go.Proofs.YthpccmkagikhjaaGreatDoor

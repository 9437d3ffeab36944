import Derived.Test.YthpccmkagikhjaaGreatDoorQReadJournal2
import Derived.Test.YthpccmkagikhjaaGreatDoorQReadJournal3
import Derived.Test.YthpccmkagikhjaaGreatDoorQReadJournal10
import Derived.Test.YthpccmkagikhjaaGreatDoorQReadJournal12
namespace Go.Proofs.YthpccmkagikhjaaGreatDoor
set_option linter.unusedVariables false
open Go.RowKit
set_option maxRecDepth 100000
set_option maxHeartbeats 4000000
section
open Go.RowKit Go.Shelf
attribute [local go_sem] Oper.semAt_some
def wkTo (L:List (Int×Int)) (t:Nat) (j:Nat):Int:=carry L t+(sumTo L j - sumTo L (cnt L ((t:Int) - 1)))
theorem wkTo_first (L:List (Int×Int)) (t:Nat):wkTo L t (cnt L ((t:Int) - 1))=carry L t:=by unfold wkTo;omega
theorem wkTo_last {L:List (Int×Int)} (h:cOk L=true) (t:Nat):wkTo L t (cnt L t)=wk L t:=by
 have a:=arr_cnt h (t:Int)
 have b:=wk_carry L t
 unfold wkTo;omega
theorem wkTo_succ (L:List (Int×Int)) (t j:Nat):wkTo L t (j+1)=wkTo L t j+Y L j:=by simp only [wkTo,sumTo];omega
theorem carry_bd {L:List (Int×Int)} (h:cOk L=true) (t:Nat):0<=carry L t∧carry L t<=72:=by
 cases t with
 | zero=>simp [carry]
 | succ u=>have:=wk_bd h u;simp only [carry];omega
theorem wkTo_bd {L:List (Int×Int)} (h:cOk L=true) (t j:Nat) (hj:j<=L.length):-72<=wkTo L t j∧wkTo L t j<=144:=by
 have:=carry_bd h t
 have:=sumTo_le h hj
 have:=sumTo_le h (cnt_le L ((t:Int) - 1))
 unfold wkTo;omega
theorem cnt_zero {L:List (Int×Int)} (h:cOk L=true):cnt L (((0:Nat):Int) - 1)=0:=cnt_neg h
theorem workFrom1_in (F:Fence) (n:Nat) (h58:F.fn 234) (hro:F.round=none) (hn:1<=n) (l Bl B cap:Nat) (A:Option Addr) (L:List (Int×Int)) (hok:cOk L=true)
  (J Jx:List (Fin 201)->World->Prop) (W:World)
  (hY:∀ pre x W1,J pre W1->x.1=pre.length->YieldAt F (n - 1) Tryz.prog l #[.int .i64 (x.1:Int),.int .i64 (wk L x.1)] W1 fun e W' =>
    (e=.returned (.bool true)∧J (pre++[x]) W'∧Kpt B Bl W1 W')∨(e=.returned (.bool false)∧Jx (pre++[x]) W'))
  (hBl:W.heap[Bl]?=some (.cells #[.slice A L.length cap] 28 (0,0))) (hc:Cs W B A L) (h0:J [] W) :
  CallsIn F n Tryz.prog 234 #[.func (.yield l) #[] #[],.pointer (some ⟨Bl,0,none⟩)] W fun e W'=>(∃ v,e=.returned v) ∧
   ((∃ ys,(ys.map Fin.val=List.range 201)∧J ys W')∨(∃ pre,(∃ k,pre.map Fin.val=List.range (k+1))∧Jx pre W')):=by
 have Hbd:=Lib.hid (fun k=>@cOk_bd L k hok)
 have Hlt:=Lib.hid (fun t j hj=>@lt_cnt L hok t j hj)
 have Hwt:=Lib.hid (fun t j hj=>@wkTo_bd L hok t j hj)
 have Hwk:=Lib.hid (fun t=>@wk_bd L hok t)
 have Hcb:=Lib.hid (fun t=>@carry_bd L hok t)
 have Hlast:=Lib.hid (fun t=>@wkTo_last L hok t)
 have Hcz:=Lib.hid (cnt_zero hok)
 have hlen:=cOk_len hok
 refine callsIn_of_wp Tryz.func234 rfl h58 ?_ hro
 simp only [Tryz.ntmps234,List.size_toArray,List.length_cons,List.length_nil,Nat.reduceAdd,Nat.reduceSub,Array.replicate_succ,Array.replicate_zero,List.push_toArray,List.append_toArray,List.nil_append,List.cons_append]
 gi_wp2
 gi_loopw [3,4,6] (fun q c i wr=>∃ (t:Nat) (pre:List (Fin 201)),t<=201∧i=.int .i64 t∧q=.int .i64 (carry L t)∧c=.int .i64 (cnt L ((t:Int) - 1))∧pre.map Fin.val=List.range t∧J pre wr∧Kpt B Bl W wr)
  (fun _ _ i _=>201 - (intOf i).toNat)
 case atStart=>exact ⟨0,[],by omega,rfl,rfl,by rw [Hcz.out];rfl,rfl,h0,Below.refl _ _,rfl⟩
 case round =>
  obtain ⟨t,pre,ht,rfl,rfl,rfl,hpre,hJs,hnx⟩:=hrel
  have hbr:wr.cell? ⟨Bl,0,none⟩=some (.slice A L.length cap):=by simp [World.cell?,hnx.2,hBl]
  by_cases hlt:t < 201
  ·have hcl:=cnt_le' L (t:Int)
   have hcl2:=cnt_le L (t:Int)
   have hlt':(t:Int) < 201:=by omega
   have Hf:=Lib.hid (wkTo_first L t)
   gi_wp2
   gi_loop [3,4] (fun s i=>∃ j:Nat,cnt L ((t:Int) - 1)<=j∧j<=cnt L t∧i=.int .i64 j∧s=.int .i64 (wkTo L t j)) (fun _ i=>L.length - (intOf i).toNat)
   case atStart=>exact ⟨cnt L ((t:Int) - 1),Nat.le_refl _,hcl,rfl,by rw [Hf.out]⟩
   case round =>
    obtain ⟨j,hj1,hj2,rfl,rfl⟩:=hrel
    have bw:=Hwt.out t j (by omega)
    by_cases hjl:j < L.length
    ·obtain ⟨b,off,rfl,hlb,hcc⟩:=hc (by omega)
     have c1:=(hnx.1.cell (p:=⟨b,off+j * 2,none⟩) hlb).trans (hcc j hjl).1
     have c2:=(hnx.1.cell (p:=⟨b,off+j * 2+1,none⟩) hlb).trans (hcc j hjl).2
     have b2:=Hbd.out j hjl
     have hjl':(j:Int) < (L.length:Int):=by omega
     have hj0':(0:Int)<=(j:Int):=by omega
     have hjc:=Hlt.out (t:Int) j hjl
     clear hcc
     by_cases he:X L j<=t
     ·have E:=Lib.hid (wkTo_succ L t j)
      have hjc2:=hjc.2 he
      clear hjc
      gi_wp2
      go_round
      case rel=>exact ⟨j+1,by omega,by omega,by go_num,by rw [E.out]⟩
      case measure=>simp [intOf];omega
     ·have hje:j=cnt L t:=by
       have:¬ j < cnt L t:=fun x=>he (hjc.1 x)
       omega
      clear hjc
      subst hje
      rw [Hlast.out] at bw ⊢
      have hpl:pre.length=t:=by rw [<- List.length_map (f:=Fin.val),hpre];simp
      obtain ⟨x,hx⟩:∃ x:Fin 201,x.1=t:=⟨⟨t,hlt⟩,rfl⟩
      obtain ⟨fn,tmps,assign,body,hy,hR⟩:=hY pre x wr hJs (by omega)
      rw [hx] at hy
      have HX:=Lib.hid hx;clear hx
      have Hpre:=Lib.hid hpre;clear hpre hpl
      have bw2:=Hwk.out t
      gi_wp2
      refine hR.mono ?_
      rintro e W3 (⟨rfl,hJ3,hk3⟩ | ⟨rfl,hJx3⟩)
      ·gi_wp2
       go_roundw
       case rel =>
        refine ⟨t+1,pre++[x],by omega,by go_num,?_,?_,?_,hJ3,hnx.t hk3⟩
        ·simp only [carry]
         congr 1
         omega
        ·rw [show ((t+1:Nat):Int) - 1=t by omega]
        ·rw [List.map_append,Hpre.out,List.range_succ]
         simp only [List.map_cons,List.map_nil,HX.out]
       case measure=>simp [intOf];omega
      ·gi_wp2
       refine bodyPost_ret (results_none rfl _ _ _) rfl ?_
       exact ⟨⟨_,rfl⟩,.inr ⟨pre++[x],⟨t,by rw [List.map_append,Hpre.out,List.range_succ];simp only [List.map_cons,List.map_nil,HX.out]⟩,hJx3⟩⟩
    ·have hjf:¬ ((j:Int) < (L.length:Int)):=by omega
     have hje:j=cnt L t:=by omega
     subst hje
     rw [Hlast.out] at bw ⊢
     have hpl:pre.length=t:=by rw [<- List.length_map (f:=Fin.val),hpre];simp
     obtain ⟨x,hx⟩:∃ x:Fin 201,x.1=t:=⟨⟨t,hlt⟩,rfl⟩
     obtain ⟨fn,tmps,assign,body,hy,hR⟩:=hY pre x wr hJs (by omega)
     rw [hx] at hy
     have HX:=Lib.hid hx;clear hx
     have Hpre:=Lib.hid hpre;clear hpre hpl
     have bw2:=Hwk.out t
     gi_wp2
     refine hR.mono ?_
     rintro e W3 (⟨rfl,hJ3,hk3⟩ | ⟨rfl,hJx3⟩)
     ·gi_wp2
      go_roundw
      case rel =>
       refine ⟨t+1,pre++[x],by omega,by go_num,?_,?_,?_,hJ3,hnx.t hk3⟩
       ·simp only [carry]
        congr 1
        omega
       ·rw [show ((t+1:Nat):Int) - 1=t by omega]
       ·rw [List.map_append,Hpre.out,List.range_succ]
        simp only [List.map_cons,List.map_nil,HX.out]
      case measure=>simp [intOf];omega
     ·gi_wp2
      refine bodyPost_ret (results_none rfl _ _ _) rfl ?_
      exact ⟨⟨_,rfl⟩,.inr ⟨pre++[x],⟨t,by rw [List.map_append,Hpre.out,List.range_succ];simp only [List.map_cons,List.map_nil,HX.out]⟩,hJx3⟩⟩
  ·have hlf:¬ ((t:Int) < 201):=by omega
   gi_wp2
   go_end0
   obtain rfl:t=201:=by omega
   exact ⟨⟨_,rfl⟩,.inl ⟨pre,hpre,hJs⟩⟩
end
section
open Go.RowKit Go.Shelf
attribute [local go_sem] Oper.semAt_some
theorem workFrom0_in (F:Fence) (n:Nat) (h56:F.fn 202) (hro:F.round=none) (A:Option Addr) (len cap:Nat) (w:World) :
  CallsIn F n Tryz.prog 202 #[.slice A len cap] w fun e w'=>e=.returned (.func (.func 234) #[] #[.pointer (some ⟨w.heap.size,0,none⟩)])∧w'=w.alloc (.cells #[.slice A len cap] 28):=by
 refine callsIn_of_wp Tryz.func202 rfl h56 ?_ hro
 simp only [Tryz.ntmps202,List.size_toArray,List.length_cons,List.length_nil,Nat.reduceAdd,Nat.reduceSub,Array.replicate_succ,Array.replicate_zero,List.push_toArray,List.append_toArray,List.nil_append,List.cons_append]
 gi_wp2
 go_ret
 exact ⟨rfl,rfl⟩
theorem workFrom0_stops (F:Fence) (n:Nat) (h58:F.fn 234) (hro:F.round=none) (hn:1<=n) (Bl B cap:Nat) (A:Option Addr) (L:List (Int×Int)) (hok:cOk L=true) (w:World) (hB:B<=w.heap.size)
  (hBl:w.heap[Bl]?=some (.cells #[.slice A L.length cap] 28 (0,0))) (hc:Cs w B A L) :
  SeqStopsK F n Tryz.prog 234 #[.pointer (some ⟨Bl,0,none⟩)] (fun x:Fin 201=>#[Value.int .i64 (x.1:Int),.int .i64 (wk L x.1)]) (Kpt B Bl)
   (fun ys=>ys.map Fin.val=List.range 201) (fun pre=>∃ k,pre.map Fin.val=List.range (k+1)) 201 w:=fun l J Jx W hW _ _ hY h0=>by
 have h1:Bl < w.heap.size:=(Array.getElem?_eq_some_iff.1 hBl).1
 exact workFrom1_in F n h58 hro hn l Bl B cap A L hok J Jx W (fun pre x W1 h hx=>hY pre x W1 h (by have:=x.2;omega)) ((hW.block Bl h1).trans hBl) (hc.below (hW.mono hB)) h0
theorem momentOk_no {L:List (Int×Int)} {t:Int} (h:cOk L=false):momentOk L t=false:=by simp [momentOk,h]
theorem workV_at {L:List (Int×Int)} (h:cOk L=true) (x:Fin 201):workV L (x.1:Int)=wk L x.1:=by
 have hx:=x.2
 rw [workV_yes (by simp [momentOk,h];omega)];simp
theorem workV_out {L:List (Int×Int)} {t:Int} {ys:List (Fin 201)} (hy:ys.map Fin.val=List.range 201) (h:∀ x ∈ ys,(x.1:Int)≠t):workV L t=-1:=by
 refine workV_no ?_
 refine Bool.eq_false_iff.2 fun hm=>?_
 obtain ⟨n,rfl,hn,-⟩:=momentOk_nat hm
 have hmem:n ∈ ys.map Fin.val:=by rw [hy];exact List.mem_range.2 (by omega)
 obtain ⟨x,hx,e⟩:=List.mem_map.1 hmem
 exact h x hx (by rw [e])
theorem c_iWorkAt (L:List (Int×Int)) (A:Option Addr) (c:Nat) (t:Int) (w:World) (hA:Cs w w.heap.size A L) (hn:L.length<=140737488351232) :
  Calls Tryz.prog 173 #[.slice A L.length c,.int .i64 t] w fun e w'=>e=.returned (.int .i64 (workV L t))∧Below w.heap.size w w':=by
 have hb0:Below w.heap.size w ((w.alloc (.cells #[.int .i64 t] 3)).alloc (.cells #[.int .i64 0] 3)):=by (repeat (first | exact rfl | exact Below.refl _ _ | (with_reducible refine Below.drew ?_) | (with_reducible refine Below.drewN ?_ _) | (with_reducible refine Below.alloc ?_ ?_ _) | (with_reducible refine Below.setCell ?_ ?_ _) | (show _<=_;focus (first | omega | (simp;done) | (simp;omega)))))
 by_cases h:cOk L=true
 ·have H:=Lib.hid h;clear h
  refine (callsIn_wide (n:=6)).1 ?_
  refine callsIn_of_wp_marks Tryz.func173 rfl trivial ?_ rfl
  simp only [Tryz.ntmps173,List.size_toArray,List.length_cons,List.length_nil,Nat.reduceAdd,Nat.reduceSub,Array.replicate_succ,Array.replicate_zero,List.push_toArray,List.append_toArray,List.nil_append,List.cons_append]
  gi_wp2_with (refine ⟨trivial,?_⟩;gi_at_call 61;refine (callsIn_wide.2 (c_iCustomersOk L A c _ ((hA.below hb0).more hb0.size) hn)).mono ?_;rw [H.out];rintro e w1 ⟨rfl,hb1⟩)
  have bT:=((Boxed.new w 3 (.int .i64 t)).alloc (.cells #[.int .i64 0] 3))
  have bR:=Boxed.new (w.alloc (.cells #[.int .i64 t] 3)) 3 (.int .i64 0)
  simp only [World.size_alloc] at bR
  have hbs:=hb1.size
  simp only [World.size_alloc] at hbs
  have bT1:Boxed w1 w.heap.size 3 (.int .i64 t):=(hb1.block _ (by simp;omega)).trans bT
  have bR1:Boxed w1 (w.heap.size+1) 3 (.int .i64 0):=(hb1.block _ (by simp)).trans bR
  have hbx:=hb0.trans (hb1.mono (by simp;omega))
  clear bT bR hb1 hb0
  gi_wp2_with (refine ⟨trivial,?_⟩;gi_at_call 202;refine (workFrom0_in _ _ trivial rfl _ _ _ _).mono ?_;rintro e w' ⟨rfl,rfl⟩)
  obtain ⟨W0,hW0⟩:∃ W0,w1.alloc (.cells #[.slice A L.length c] 28)=W0:=⟨_,rfl⟩
  have bT0:=bT1.alloc (.cells #[.slice A L.length c] 28)
  have bR0:=bR1.alloc (.cells #[.slice A L.length c] 28)
  have bL0:=heap_alloc_new w1 (.cells #[.slice A L.length c] 28)
  have hB0:Below w.heap.size w (w1.alloc (.cells #[.slice A L.length c] 28)):=hbx.alloc (by omega) _
  have hsz:(w1.alloc (.cells #[.slice A L.length c] 28)).heap.size=w1.heap.size+1:=by simp
  rw [hW0] at bT0 bR0 bL0 hB0 hsz ⊢
  clear hW0 bT1 bR1 hbx
  refine wpIn_rangeFunc_ownH rfl (by omega) (gf:=234) (lb:=#[.pointer (some ⟨w1.heap.size,0,none⟩)]) rfl trivial (enters_of Tryz.func234 (by kernel_rfl) rfl)
   (workFrom0_stops Fence.wide _ trivial rfl (by omega) w1.heap.size w.heap.size c A L H.out W0 (by omega) bL0 (hA.below hB0)) Kpt.t (Kpt.b (by omega) (by omega)) (Below.refl _ _) (fun _=>rfl)
   (fun pre W=>((∀ x ∈ pre,(x.1:Int)≠t)∧(Boxed W w.heap.size 3 (.int .i64 t)∧Boxed W (w.heap.size+1) 3 (.int .i64 0)))∧(Below w.heap.size w W∧W0.heap.size<=W.heap.size))
   (fun cd pre W=>((cd=.ret∧∃ x ∈ pre,(x.1:Int)=t)∧Boxed W (w.heap.size+1) 3 (.int .i64 (workV L t)))∧Below w.heap.size w W)
   (OwnFrom.and (OwnFrom.and (fun _ _ _ _ hs _ _=>hs) (OwnFrom.and (Own.from (boxed_own _ _ _) _) (Own.from (boxed_own _ _ _) _))) (OwnFrom.and (ownFrom_below (Nat.le_refl _) (by omega)) (fun s A B row hs hg hr=>Nat.le_trans hs hg.size)))
   (fun _=>OwnFrom.and (OwnFrom.and (fun _ _ _ _ hs _ _=>hs) (Own.from (boxed_own _ _ _) _)) (ownFrom_below (Nat.le_refl _) (by omega)))
   ⟨⟨(fun x hx=>by cases hx),bT0,bR0⟩,hB0,Nat.le_refl _⟩
   (fun x a' W=>a'={ tmps:=#[.slice A L.length c,.int .i64 t,undef,.pointer (some ⟨w.heap.size,0,none⟩),.pointer (some ⟨w.heap.size+1,0,none⟩),.int .i64 (x.1:Int),.int .i64 (wk L x.1),.slice A L.length c,.bool true,.bool false,.slice A L.length c,.func (.func 234) #[] #[.pointer (some ⟨w1.heap.size,0,none⟩)],.int .i64 (x.1:Int),.int .i64 (wk L x.1),undef,undef,undef,undef],defers:=[] })
   (fun x a' _ P Q row hs hg hr=>hs)
   ?assign ?body ?done ?stop
  case assign =>
   rintro l pre x W K hI hK
   gi_wp2
   exact hK _ _ (KeepsFrom.refl _ _) ⟨Below.refl _ W,rfl⟩ hI rfl
  case body =>
   rintro l pre x a' W hl ⟨r,hr⟩ ⟨⟨hne,bT,bR⟩,hB1,hZ⟩ rfl hlt
   have cT:=bT.cell
   have cR:=bR.cell
   have fR:=bR.frozen
   have bx:=x.2
   by_cases he:(x.1:Int)=t
   ·have heb:((x.1:Int) == t)=true:=beq_iff_eq.2 he
    have hs:∀ v:Int,v=wk L x.1->KeepsFrom W0.heap.size W (W.setCell ⟨w.heap.size+1,0,none⟩ (.int .i64 v)) ∧
      ((∃ y ∈ pre++[x],(y.1:Int)=t)∧Boxed (W.setCell ⟨w.heap.size+1,0,none⟩ (.int .i64 v)) (w.heap.size+1) 3 (.int .i64 (workV L t))∧Below w.heap.size w (W.setCell ⟨w.heap.size+1,0,none⟩ (.int .i64 v))):=by
     intro v e
     refine ⟨(KeepsOthers.setCell _ _ _).from _,⟨x,by simp,he⟩,?_,hB1.setCell (p:=⟨w.heap.size+1,0,none⟩) (by simp) _⟩
     rw [<- he,workV_at H.out x,<- e]
     exact bR.set _
    have HSS:=Lib.hid hs
    clear hs he
    gi_wp2
    obtain ⟨q1,q2,q3,q4⟩:=HSS.out _ rfl
    exact ⟨q1,⟨⟨rfl,q2⟩,q3⟩,q4⟩
   ·have heb:((x.1:Int) == t)=false:=beq_eq_false_iff_ne.2 he
    have HN:=Lib.hid (show ∀ y ∈ pre++[x],(y.1:Int)≠t from fun y hy=>by
     rcases List.mem_append.1 hy with h | h
     ·exact hne y h
     ·rw [List.mem_singleton.1 h];exact he)
    clear hne he
    gi_wp2
    exact ⟨KeepsFrom.refl _ _,⟨Below.refl _ W,rfl⟩,⟨HN.out,bT,bR⟩,hB1,hZ⟩
  case done =>
   rintro D ys W hD hys ⟨⟨hne,bT,bR⟩,hB1,hZ⟩ hK
   have cR:=bR.cell
   have fR:=bR.frozen
   have HV:=Lib.hid (workV_out (L:=L) hys hne)
   clear hne hys
   gi_wp2
   have hK':=(KeepsOthers.setCell W ⟨w.heap.size+1,0,none⟩ (.int .i64 (-1))).same D _ hK rfl
   refine ⟨by simp,.inl ⟨_,_,rfl,run_takeDeferred hK',?_⟩⟩
   have hc5:=cell_kept (bR.set (.int .i64 (-1))).cell (grownBy_putObj' _ D (.deferred none)) (fun r e=>by cases e;exact ⟨_,hK',rfl⟩)
   refine ⟨.int .i64 (-1),?_,by rw [HV.out],(hB1.setCell (p:=⟨w.heap.size+1,0,none⟩) (by simp) _).trans (belowK_b (w:=w) (Nat.le_refl _) _ D _ _ (by omega) hK' rfl rfl)⟩
   simp [results,Tryz.f173,go_sem,hc5]
  case stop =>
   rintro D cd pre W hD hpre ⟨⟨⟨rfl,hx⟩,bR⟩,hB1⟩ hK
   gi_wp2
   refine ⟨by simp,.inl ⟨_,_,rfl,run_takeDeferred hK,?_⟩⟩
   have hc5:=cell_kept bR.cell (grownBy_putObj' _ D (.deferred none)) (fun r e=>by cases e;exact ⟨_,hK,rfl⟩)
   refine ⟨.int .i64 (workV L t),?_,rfl,hB1.trans (belowK_b (w:=w) (Nat.le_refl _) W D _ _ (by omega) hK rfl rfl)⟩
   simp [results,Tryz.f173,go_sem,hc5]
 ·have hno:cOk L=false:=by simpa using h
  have HV:=Lib.hid (workV_no (t:=t) (momentOk_no hno))
  have H:=Lib.hid hno;clear h hno
  go_enter Tryz.func173,Tryz.ntmps173
  go_wp2_with fail
  refine (c_iCustomersOk L A c _ ((hA.below hb0).more hb0.size) hn).mono ?_
  rintro e w1 ⟨rfl,hb1⟩
  rw [H.out]
  have bR:=Boxed.new (w.alloc (.cells #[.int .i64 t] 3)) 3 (.int .i64 0)
  simp only [World.size_alloc] at bR
  have hbs:=hb1.size
  simp only [World.size_alloc] at hbs
  have bR1:Boxed w1 (w.heap.size+1) 3 (.int .i64 0):=(hb1.block _ (by simp)).trans bR
  have hbx:=hb0.trans (hb1.mono (by simp;omega))
  have cR:=bR1.cell
  have fR:=bR1.frozen
  have cS:=(bR1.set (.int .i64 (-1))).cell
  clear bR hb1 hb0
  go_wp2_with fail
  refine bodyPost_ret (v:=.int .i64 (-1)) (by simp [results,Tryz.f173,go_sem,cS]) rfl ?_
  exact ⟨by rw [HV.out],hbx.setCell (p:=⟨w.heap.size+1,0,none⟩) (by simp) _⟩
end
section
open Go.RowKit Go.Shelf
attribute [local go_sem] Oper.semAt_some
end
section
theorem cells1 (w:World) (x y:Int):Cs (w.alloc (.cells #[.int .i64 x,.int .i64 y] 100)) (w.alloc (.cells #[.int .i64 x,.int .i64 y] 100)).heap.size (some ⟨w.heap.size,0,none⟩) [(x,y)]:=by
 intro _
 have hz:=heap_alloc_new w (.cells #[.int .i64 x,.int .i64 y] 100)
 have hq:=fun o=>cell_of_row _ w.heap.size o _ _ _ hz
 refine ⟨_,0,rfl,by simp,fun k hk=>?_⟩
 obtain rfl:k=0:=by simpa using hk
 exact ⟨hq 0,hq 1⟩
theorem c_alive (w:World) :
  Calls Tryz.prog 19 #[] w fun e w'=>e=.returned (.bool true)∧Below w.heap.size w w':=by
 go_enter Tryz.func19,Tryz.ntmps19
 go_wp2_with fail
 have k1:=c_iCustomersOk [(0,1)] _ 1 _ (cells1 w 0 1) (by simp)
 refine k1.mono ?_
 rintro e w1 ⟨rfl,hb1⟩
 have e1:cOk [(0,1)]=true:=by decide
 rw [e1]
 go_wp2_with fail
 have k2:=c_iCustomersOk [(0,0)] _ 1 _ (cells1 w1 0 0) (by simp)
 refine k2.mono ?_
 rintro e w2 ⟨rfl,hb2⟩
 have e2:cOk [(0,0)]=false:=by decide
 rw [e2]
 go_wp2_with fail
 go_ret
 refine ⟨rfl,?_⟩
 refine Below.trans ?_ (hb2.mono (by have:=hb1.size;simp at this ⊢;omega))
 refine Below.alloc ?_ (by have:=hb1.size;simp at this;omega) _
 refine Below.trans ?_ (hb1.mono (by simp))
 (repeat (first | exact rfl | exact Below.refl _ _ | (with_reducible refine Below.drew ?_) | (with_reducible refine Below.drewN ?_ _) | (with_reducible refine Below.alloc ?_ ?_ _) | (with_reducible refine Below.setCell ?_ ?_ _) | (show _<=_;focus (first | omega | (simp;done) | (simp;omega)))))
end
section
attribute [local go_sem ↓] Go.wp_at_zero Go.wp_at_succ
theorem infoB:(Tryz.prog.info? 197).map (fun i=>(i.zero,i.size,i.bytes))=some (some (.agg #[.int .i64 0,.int .i64 0]),2,16):=by kernel_rfl
theorem c_touches (a b p q:Int) (w:World) :
  Calls Tryz.prog 256 #[.agg #[.int .i64 a,.int .i64 b],.agg #[.int .i64 p,.int .i64 q]] w fun e w'=>e=.returned (.bool (b == p))∧Below w.heap.size w w':=by
 go_enter Tryz.func256,Tryz.ntmps256
 go_wp2_with fail
 go_ret
 refine ⟨rfl,?_⟩
 (repeat (first | exact rfl | exact Below.refl _ _ | (with_reducible refine Below.drew ?_) | (with_reducible refine Below.drewN ?_ _) | (with_reducible refine Below.alloc ?_ ?_ _) | (with_reducible refine Below.setCell ?_ ?_ _) | (show _<=_;focus (first | omega | (simp;done) | (simp;omega)))))
theorem c_mergedWith (a b p q:Int) (w:World) :
  Calls Tryz.prog 257 #[.agg #[.int .i64 a,.int .i64 b],.agg #[.int .i64 p,.int .i64 q]] w fun e w'=>e=.returned (.agg #[.int .i64 a,.int .i64 q])∧Below w.heap.size w w':=by
 go_enter Tryz.func257,Tryz.ntmps257
 go_wp2_with fail
 refine bodyPost_ret (v:=.agg #[.int .i64 a,.int .i64 q]) (by simp [results,Tryz.f257,go_sem]) rfl ?_
 refine ⟨rfl,?_⟩
 (repeat (first | exact rfl | exact Below.refl _ _ | (with_reducible refine Below.drew ?_) | (with_reducible refine Below.drewN ?_ _) | (with_reducible refine Below.alloc ?_ ?_ _) | (with_reducible refine Below.setCell ?_ ?_ _) | (show _<=_;focus (first | omega | (simp;done) | (simp;omega)))))
theorem c_row (a b:Int) (w:World) :
  Calls Tryz.prog 199 #[.agg #[.int .i64 a,.int .i64 b]] w fun e w'=>e=.returned (.slice (some ⟨w.heap.size+1,0,none⟩) 2 2)∧IO w' w.heap.size (.slice (some ⟨w.heap.size+1,0,none⟩) 2 2) [a,b]∧Below w.heap.size w w':=by
 go_enter Tryz.func199,Tryz.ntmps199
 go_wp2_with fail
 go_ret
 refine ⟨rfl,?_,?_⟩
 ·have:=IO.lit2 (w.alloc (.cells #[.int .i64 a,.int .i64 b] 197)) (base:=w.heap.size) (by simp) a b
  simpa using this
 (repeat (first | exact rfl | exact Below.refl _ _ | (with_reducible refine Below.drew ?_) | (with_reducible refine Below.drewN ?_ _) | (with_reducible refine Below.alloc ?_ ?_ _) | (with_reducible refine Below.setCell ?_ ?_ _) | (show _<=_;focus (first | omega | (simp;done) | (simp;omega)))))
def PO (w:World) (base:Nat) (v:Value) (B:List (Int×Int)):Prop:=w.ownsRow base 197 2 v B.length (flatC B)
theorem PO.nil (w:World) (base:Nat):PO w base (.slice none 0 0) []:=⟨rfl,.inl ⟨rfl,rfl⟩⟩
theorem PO.below {w w':World} {base B:Nat} {v:Value} {xs:List (Int×Int)} (h:PO w base v xs) (hb:Below B w w') (hB:w.heap.size<=B):PO w' base v xs:=owns_below h hb hB
theorem PO.mono {w:World} {base base':Nat} {v:Value} {xs:List (Int×Int)} (h:PO w base v xs) (hB:base'<=base):PO w base' v xs:=owns_mono h hB
theorem PO.alloc {w:World} {base:Nat} {v:Value} {xs:List (Int×Int)} (h:PO w base v xs) (o:Obj):PO (w.alloc o) base v xs:=World.ownsRow.alloc h o
theorem PO.drew {w:World} {base:Nat} {v:Value} {xs:List (Int×Int)} (h:PO w base v xs):PO w.drew base v xs:=h
theorem PO.kept {w w':World} {base:Nat} {row:Option Nat} {v:Value} {xs:List (Int×Int)} (h:PO w base v xs) (hg:w.grownBy w' row) (hr:∀ r,v.ownBlock=some r->row≠some r):PO w' base v xs:=by
 refine ⟨h.1,?_⟩
 have hl:=owns_lt h
 rcases h.2 with h2 | ⟨g,cap,cur,rfl,hgb,hh,rest⟩
 ·exact .inl h2
 ·have:=hl g (by simp [Value.ownBlock])
  exact .inr ⟨g,cap,cur,rfl,hgb,by rw [hg.block g (by omega) (fun e=>hr g (by simp [Value.ownBlock]) e.symm)];exact hh,rest⟩
theorem PO.cellsObj {w:World} {base:Nat} {v:Value} {xs:List (Int×Int)} (h:PO w base v xs) (r:Nat) (o:Obj) (hr:v.ownBlock=some r) (ho:w.heap[r]?=some o):o.isCells=true:=by
 rcases h.2 with ⟨rfl,_⟩ | ⟨g,cap,cur,rfl,hgb,hh,rest⟩
 ·simp [Value.ownBlock] at hr
 ·simp only [Value.ownBlock] at hr
  have e:g=r:=by simpa using hr
  subst e
  rw [hh] at ho;cases ho;rfl
theorem PO.form {w:World} {base:Nat} {v:Value} {L:List (Int×Int)} (h:PO w base v L):∃ A c,v=.slice A L.length c∧(0 < L.length->∃ g,A=some ⟨g,0,none⟩∧base<=g∧g < w.heap.size∧(∀ k,k < L.length->w.cell? ⟨g,k * 2,none⟩=some (.int .i64 (X L k))∧w.cell? ⟨g,k * 2+1,none⟩=some (.int .i64 (Y L k)))∧∀ j,w.frozen? ⟨g,j,none⟩=false):=by
 have hl:=owns_lt h
 rcases h.2 with ⟨rfl,h0⟩ | ⟨g,cap,cur,rfl,hg,hh,h1,h2,h3,h4⟩
 ·exact ⟨none,0,by rw [h0],fun hp=>by omega⟩
 ·refine ⟨_,cap,rfl,fun hp=>⟨g,rfl,hg,hl g (by simp [Value.ownBlock]),fun k hk=>?_,fun j=>World.ownsRow.frozenAt h j⟩⟩
  have:=flatC_at L k hk
  exact ⟨(World.ownsRow.cellAt h (k * 2) (by omega)).trans this.1,(World.ownsRow.cellAt h (k * 2+1) (by omega)).trans this.2⟩
theorem flatC_set2 (B:List (Int×Int)):∀ (k:Nat) (c:Int×Int),k < B.length->flatC (B.set k c)=((flatC B).set (k * 2) (.int .i64 c.1)).set (k * 2+1) (.int .i64 c.2):=by
 induction B with
 | nil=>intro k c hk;simp at hk
 | cons d B ih =>
  intro k c hk
  cases k with
  | zero=>rfl
  | succ k =>
   have:=ih k c (by simpa using hk)
   have e1:(k+1) * 2=k * 2+1+1:=by omega
   simp only [flatC,List.set_cons_succ,List.flatMap_cons,e1,List.cons_append,List.nil_append] at this ⊢
   rw [this]
theorem PO.store {w:World} {base g n c:Nat} {B:List (Int×Int)} (h:PO w base (.slice (some ⟨g,0,none⟩) n c) B) (k:Nat) (hk:k < B.length) (a b:Int) :
  PO ((w.setCell ⟨g,k * 2,none⟩ (.int .i64 a)).setCell ⟨g,k * 2+1,none⟩ (.int .i64 b)) base (.slice (some ⟨g,0,none⟩) n c) (B.set k (a,b)):=by
 have hn:n=B.length:=by
  rcases h.2 with ⟨h2,_⟩ | ⟨g',cap,cur,h2,_⟩
  ·cases h2
  ·injection h2
 subst hn
 have h1:=(World.ownsRow.stored (g:=g) (cap:=c) h (k * 2) (.int .i64 a)).1
 have h2:=(World.ownsRow.stored (g:=g) (cap:=c) h1 (k * 2+1) (.int .i64 b)).1
 unfold PO
 rw [List.length_set,flatC_set2 _ _ _ hk]
 exact h2
section
variable {w:World}
theorem app_P2 {ops:Array Oper} {rest:List Oper} {o:Oper} {a:Act} {Q:Exit->Act->World->Prop} (hgd:o.guard=none) (s x:Operand)
  (ho:o.op=.call { callee:=.builtin .append,args:=#[s,x],argTypes:=#[194,194] })
  (base:Nat) (v:Value) (L:List (Int×Int)) (p q:Int) (B:Nat) (hs:a.eval s=v) (hown:PO w base v L) (hx:a.eval x=.slice (some ⟨B,0,none⟩) 1 1)
  (hB:w.heap[B]?=some (.cells #[.int .i64 p,.int .i64 q] 197 (0,0))) (hlen:L.length<=1000000000000) (hbase:base<=w.heap.size)
  (h:∀ g cap w',PO w' base (.slice (some ⟨g,0,none⟩) (L.length+1) cap) (L++[(p,q)])->w.grownBy w' v.ownBlock->wpList Tryz.prog ops Q rest (a.put o.dst (.slice (some ⟨g,0,none⟩) (L.length+1) cap)) w') :
  wpList Tryz.prog ops Q (o::rest) a w:=by
 obtain ⟨i0,hi,hz0,hz1,hz2⟩:=info_parts infoB
 refine wpList_append_lies w hgd s x _ ho base 197 i0 _ 2 16 Tryz.underlying194 hi hz0 hz1 hz2 rfl (by decide) v L.length _ hs hown
  ⟨B,0,none⟩ 1 1 [.int .i64 p,.int .i64 q] hx rfl (World.news_of_block (cs:=#[.int .i64 p,.int .i64 q]) hB) (by simp [Value.oneCell']) (by decide) (by simp only [maxLen];omega) (by omega) hbase _ rfl ?_
 intro g cap w' h1 h2 _ _
 exact h g cap w' (by simpa [PO,flatC_snoc] using h1) h2
end
theorem grown_via {w w5 w7:World} {row:Option Nat} (hb:Below w.heap.size w w5) (h:w5.grownBy w7 row):w.grownBy w7 row :=
 ⟨h.os.trans hb.os,h.tape.trans hb.tape,h.output.trans hb.output,Nat.le_trans hb.size h.size,fun k hk hne=>(h.block k (Nat.lt_of_lt_of_le hk hb.size) hne).trans (hb.block k hk)⟩
theorem c_withPeriod (B:List (Int×Int)) (t:Nat) (base:Nat) (v:Value) (w:World) (hown:PO w base v B) (hbase:base<=w.heap.size) (hl:B.length<=1000000) :
  Calls Tryz.prog 233 #[v,.agg #[.int .i64 (t:Int),.int .i64 ((t:Int)+1)]] w fun e w'=>∃ v',e=.returned v'∧PO w' base v' (busyNext B t)∧w.grownBy w' v.ownBlock:=by
 obtain ⟨O,oc,rfl,hO⟩:=hown.form
 go_enter Tryz.func233,Tryz.ntmps233
 by_cases hB0:B.length=0
 ·have hq1:(B.length:Int) - 1 < 0:=by omega
  go_wp2_with fail
  have bB0:=heap_alloc_new w (.cells #[.int .i64 (t:Int),.int .i64 ((t:Int)+1)] 197)
  refine wp_region_wb (w.heap.size+1) (by kernel_rfl) (by kernel_rfl) ?_
  repeat (go_big_quiet_step (fail))
  refine wpQuiet_nil ?_
  rintro w5 ⟨⟨_,hb5⟩,rfl⟩
  have hbx:Below w.heap.size w w5:=((Below.refl _ w).alloc (Nat.le_refl _) _).trans (hb5.mono (by omega))
  have hz5:=hb5.size
  simp only [World.size_alloc] at hz5
  have bB5:=(hb5.block w.heap.size (by omega)).trans bB0
  have cB:=fun o=>cell_of_row w5 w.heap.size o _ _ _ bB5
  have cB0:=cB 0
  have cB1:=cB 1
  have own5:PO w5 base (.slice O B.length oc) B:=hown.below hbx (Nat.le_refl _)
  have hBe:B=[]:=List.eq_nil_of_length_eq_zero hB0
  have E2:=Lib.hid (show busyNext B (t:Int)=B++[((t:Int),(t:Int)+1)] by rw [hBe];rfl)
  have HX:=Lib.hid (And.intro hbx own5)
  have HL:=Lib.hid (show B.length<=1000000000000 by omega)
  clear cB hBe hbx own5 hb5 hown hO hl hB0
  go_wp2_with (refine app_P2 ?_ (.tmp 20) (.tmp 22) ?_ base (.slice O B.length oc) B (t:Int) ((t:Int)+1) w5.heap.size ?_ ?_ ?_ ?_ ?_ ?_ ?_;rfl;rfl;rfl;exact (HX.out.2.alloc _);rfl;exact (heap_alloc_new _ _);exact HL.out;exact (Nat.le_trans hbase (Nat.le_trans (by omega) (show w5.heap.size<=(w5.alloc _).heap.size by simp)));intro g7 cap w7 hown7 hgr7)
  go_ret
  exact ⟨_,rfl,by rw [E2.out];exact hown7,grown_via (HX.out.1.alloc (by omega) _) hgr7⟩
 ·have hpos:0 < B.length:=by omega
  obtain ⟨g0,rfl,hg0,hg0lt,hcl,hfz⟩:=hO hpos
  obtain ⟨d0,d1⟩:=hcl (B.length - 1) (by omega)
  have k0:decide ((B.length:Int) - 1 < 0)=false:=decide_eq_false (by omega)
  have k1:(0:Int)<=(B.length:Int) - 1:=by omega
  have k2:(B.length:Int) - 1 < (B.length:Int):=by omega
  have k5:((B.length:Int) - 1).toNat=B.length - 1:=by omega
  have bB0:=heap_alloc_new w (.cells #[.int .i64 (t:Int),.int .i64 ((t:Int)+1)] 197)
  have hb1:Below w.heap.size w (w.alloc (.cells #[.int .i64 (t:Int),.int .i64 ((t:Int)+1)] 197)):=(Below.refl _ w).alloc (Nat.le_refl _) _
  have hs1:(w.alloc (.cells #[.int .i64 (t:Int),.int .i64 ((t:Int)+1)] 197)).heap.size=w.heap.size+1:=by simp
  have e0:=WB.cell (B:=w.heap.size+1) (show g0 < w.heap.size+1 by omega) ((hb1.cell (p:=⟨g0,(B.length - 1) * 2,none⟩) hg0lt).trans d0)
  have e1:=WB.cell (B:=w.heap.size+1) (show g0 < w.heap.size+1 by omega) ((hb1.cell (p:=⟨g0,(B.length - 1) * 2+1,none⟩) hg0lt).trans d1)
  have e2:=WB.cell (w:=w.alloc (.cells #[.int .i64 (t:Int),.int .i64 ((t:Int)+1)] 197)) (B:=w.heap.size+1) (b:=w.heap.size) (o:=0) (v:=.int .i64 (t:Int)) (by omega) (by simp [cell_of_row _ w.heap.size 0 _ _ _ bB0])
  have e3:=WB.cell (w:=w.alloc (.cells #[.int .i64 (t:Int),.int .i64 ((t:Int)+1)] 197)) (B:=w.heap.size+1) (b:=w.heap.size) (o:=1) (v:=.int .i64 ((t:Int)+1)) (by omega) (by simp [cell_of_row _ w.heap.size 1 _ _ _ bB0])
  by_cases hy:Y B (B.length - 1)=t
  ·have hyb:(Y B (B.length - 1) == (t:Int))=true:=beq_iff_eq.2 hy
   have HT:=Lib.hid (fun W=>by have K:=c_touches (X B (B.length - 1)) (Y B (B.length - 1)) (t:Int) ((t:Int)+1) W;rw [hyb] at K;exact K)
   have E2:=Lib.hid (show busyNext B (t:Int)=B.set (B.length - 1) (X B (B.length - 1),(t:Int)+1) by rw [busyNext,if_pos (show lastIs B (t:Int)=true from decide_eq_true ⟨hpos,hy⟩)])
   clear hcl hy hyb hO
   go_wp2_with fail
   refine wp_region_wb (w.heap.size+1) (by kernel_rfl) (by kernel_rfl) ?_
   repeat (go_big_quiet_step ((go_at_call 256;exact Calls.inB (Nat.le_of_eq hs1.symm) (HT.out _))))
   refine wpQuiet_nil ?_
   rintro w5 ⟨⟨_,hb5⟩,rfl⟩
   have hbx:Below w.heap.size w w5:=hb1.trans (hb5.mono (by omega))
   have hz5:=hb5.size
   simp only [World.size_alloc] at hz5
   have hz5':w.heap.size+1<=w5.heap.size:=hz5
   have bB5:=(hb5.block w.heap.size (by omega)).trans bB0
   have own5:PO w5 base (.slice (some ⟨g0,0,none⟩) B.length oc) B:=hown.below hbx (Nat.le_refl _)
   have e4:=WB.cell (w:=w5) (B:=w.heap.size+1) (show g0 < w.heap.size+1 by omega) ((hbx.cell (p:=⟨g0,(B.length - 1) * 2,none⟩) hg0lt).trans d0)
   have e5:=WB.cell (w:=w5) (B:=w.heap.size+1) (show g0 < w.heap.size+1 by omega) ((hbx.cell (p:=⟨g0,(B.length - 1) * 2+1,none⟩) hg0lt).trans d1)
   have e6:=WB.cell (w:=w5) (B:=w.heap.size+1) (b:=w.heap.size) (o:=0) (v:=.int .i64 (t:Int)) (by omega) (by simp [cell_of_row _ w.heap.size 0 _ _ _ bB5])
   have e7:=WB.cell (w:=w5) (B:=w.heap.size+1) (b:=w.heap.size) (o:=1) (v:=.int .i64 ((t:Int)+1)) (by omega) (by simp [cell_of_row _ w.heap.size 1 _ _ _ bB5])
   have HM:=Lib.hid (fun W=>c_mergedWith (X B (B.length - 1)) (Y B (B.length - 1)) (t:Int) ((t:Int)+1) W)
   clear e0 e1 e2 e3 bB0 bB5 hb5 hz5 hb1
   go_wp2_with fail
   refine wp_region_wb_tail (w.heap.size+1) 9 (by kernel_rfl) (by kernel_rfl) ?_
   simp only [List.take_succ_cons,List.take_zero,List.drop_succ_cons,List.drop_zero]
   repeat (go_big_quiet_step ((go_at_call 257;exact Calls.inB hz5' (HM.out _))))
   refine wpQuiet_nil ?_
   rintro w6 ⟨⟨_,hb6⟩,rfl⟩
   have hby:Below w.heap.size w w6:=hbx.trans (hb6.mono (by omega))
   have own6:PO w6 base (.slice (some ⟨g0,0,none⟩) B.length oc) B:=hown.below hby (Nat.le_refl _)
   have f6:=fun j=>World.ownsRow.frozenAt own6 j
   have f0:=f6 ((B.length - 1) * 2)
   have f1:=f6 ((B.length - 1) * 2+1)
   have c0:=(hby.cell (p:=⟨g0,(B.length - 1) * 2,none⟩) hg0lt).trans d0
   have c1:=(hby.cell (p:=⟨g0,(B.length - 1) * 2+1,none⟩) hg0lt).trans d1
   have HO:=Lib.hid (own6.store (B.length - 1) (by omega) (X B (B.length - 1)) ((t:Int)+1))
   have HG:=Lib.hid (grown_via (row:=some g0) hby (⟨rfl,rfl,rfl,by simp [World.setCell],fun b _ hb=>(Below.heap_setCell _ _ _ _ (fun e=>hb (by rw [e]))).trans (Below.heap_setCell _ _ _ _ (fun e=>hb (by rw [e])))⟩:w6.grownBy ((w6.setCell ⟨g0,(B.length - 1) * 2,none⟩ (.int .i64 (X B (B.length - 1)))).setCell ⟨g0,(B.length - 1) * 2+1,none⟩ (.int .i64 ((t:Int)+1))) (some g0)))
   clear f6 e4 e5 e6 e7 d0 d1 own6 own5 hown hby hb6 hbx
   go_wp2_with fail
   go_ret
   exact ⟨_,rfl,by rw [E2.out];exact HO.out,HG.out⟩
  ·have hyb:(Y B (B.length - 1) == (t:Int))=false:=beq_eq_false_iff_ne.2 hy
   have HT:=Lib.hid (fun W=>by have K:=c_touches (X B (B.length - 1)) (Y B (B.length - 1)) (t:Int) ((t:Int)+1) W;rw [hyb] at K;exact K)
   have E2:=Lib.hid (show busyNext B (t:Int)=B++[((t:Int),(t:Int)+1)] by rw [busyNext,if_neg (by simp [lastIs,hy])])
   clear hcl hy hyb d0 d1 hO
   go_wp2_with fail
   refine wp_region_wb (w.heap.size+1) (by kernel_rfl) (by kernel_rfl) ?_
   repeat (go_big_quiet_step ((go_at_call 256;exact Calls.inB (Nat.le_of_eq hs1.symm) (HT.out _))))
   refine wpQuiet_nil ?_
   rintro w5 ⟨⟨_,hb5⟩,rfl⟩
   have hbx:Below w.heap.size w w5:=hb1.trans (hb5.mono (by omega))
   have hz5:=hb5.size
   simp only [World.size_alloc] at hz5
   have bB5:=(hb5.block w.heap.size (by omega)).trans bB0
   have cB:=fun o=>cell_of_row w5 w.heap.size o _ _ _ bB5
   have cB0:=cB 0
   have cB1:=cB 1
   have own5:PO w5 base (.slice (some ⟨g0,0,none⟩) B.length oc) B:=hown.below hbx (Nat.le_refl _)
   have HX:=Lib.hid (And.intro hbx own5)
   have HL:=Lib.hid (show B.length<=1000000000000 by omega)
   clear cB hbx own5 hb5 hown hl hB0 hb1 e0 e1 e2 e3
   go_wp2_with (refine app_P2 ?_ (.tmp 20) (.tmp 22) ?_ base (.slice (some ⟨g0,0,none⟩) B.length oc) B (t:Int) ((t:Int)+1) w5.heap.size ?_ ?_ ?_ ?_ ?_ ?_ ?_;rfl;rfl;rfl;exact (HX.out.2.alloc _);rfl;exact (heap_alloc_new _ _);exact HL.out;exact (Nat.le_trans hbase (Nat.le_trans (by omega) (show w5.heap.size<=(w5.alloc _).heap.size by simp)));intro g7 cap w7 hown7 hgr7)
   go_ret
   exact ⟨_,rfl,by rw [E2.out];exact hown7,grown_via (HX.out.1.alloc (by omega) _) hgr7⟩
end
section
open Go.RowKit Go.Shelf
attribute [local go_sem] Oper.semAt_some
def busyOf (L:List (Int×Int)) (pre:List Nat):List (Int×Int):=pre.foldl (fun B t=>if wk L t=0 then B else busyNext B t) []
theorem busyOf_snoc (L:List (Int×Int)) (pre:List Nat) (t:Nat):busyOf L (pre++[t])=if wk L t=0 then busyOf L pre else busyNext (busyOf L pre) t:=by simp [busyOf]
theorem busyOf_range (L:List (Int×Int)) (k:Nat):busyOf L (List.range k)=busyT L k:=by
 induction k with
 | zero=>rfl
 | succ k ih=>rw [List.range_succ,busyOf_snoc,ih];rfl
theorem busyNext_len (B:List (Int×Int)) (t:Int):(busyNext B t).length<=B.length+1:=by
 simp only [busyNext]
 split
 ·rw [List.length_set];omega
 ·simp
theorem busyOf_len (L:List (Int×Int)) (pre:List Nat):(busyOf L pre).length<=pre.length:=by
 have key:∀ n,∀ pre:List Nat,pre.length=n->(busyOf L pre).length<=pre.length:=by
  intro n
  induction n with
  | zero=>intro pre hp;rw [List.eq_nil_of_length_eq_zero hp];simp [busyOf]
  | succ n ih =>
   intro pre hp
   rcases List.eq_nil_or_concat pre with rfl | ⟨pre',x,rfl⟩
   ·simp at hp
   ·rw [List.concat_eq_append] at hp ⊢
    have i:=ih pre' (by simpa using hp)
    rw [busyOf_snoc,List.length_append]
    have:=busyNext_len (busyOf L pre') x
    split <;> simp <;> omega
 exact key _ pre rfl
theorem busyOf_all {L:List (Int×Int)} (h:cOk L=true):busyOf L (List.range 201)=busyP L:=by
 have hl:=lastLeave_bd h
 have e:=wk_end h (t:=200) (by omega)
 rw [busyOf_range,busyP_yes h]
 show (if wk L 200=0 then busyT L 200 else busyNext (busyT L 200) 200)=_
 rw [if_pos e]
def HoldsP (W:World) (Bx base:Nat) (B:List (Int×Int)):Prop:=∃ v,Boxed W Bx 194 v∧PO W base v B
theorem HoldsP.own {β:Type} (B0 Bx base:Nat) (f:β->List (Int×Int)):OwnFrom B0 (fun s W=>HoldsP W Bx base (f s)):=by
 intro s W W' row ⟨v,h1,h2⟩ hg hr
 refine ⟨v,h1.kept hg (fun e=>?_),h2.kept hg (fun r hv e=>?_)⟩
 ·obtain ⟨_,o,ho,hc⟩:=hr Bx e.symm
  rw [show W.heap[Bx]?=_ from h1] at ho;cases ho;cases hc
 ·obtain ⟨_,o,ho,hc⟩:=hr r e
  rw [h2.cellsObj r o hv ho] at hc;cases hc
theorem c_busyPeriods (L:List (Int×Int)) (A:Option Addr) (c:Nat) (w:World) (hA:Cs w w.heap.size A L) (hn:L.length<=140737488351232) :
  Calls Tryz.prog 198 #[.slice A L.length c] w fun e w'=>∃ v,e=.returned v∧PO w' w.heap.size v (busyP L)∧Below w.heap.size w w':=by
 by_cases h:cOk L=true
 ·have H:=Lib.hid h;clear h
  refine (callsIn_wide (n:=6)).1 ?_
  refine callsIn_of_wp_marks Tryz.func198 rfl trivial ?_ rfl
  simp only [Tryz.ntmps198,List.size_toArray,List.length_cons,List.length_nil,Nat.reduceAdd,Nat.reduceSub,Array.replicate_succ,Array.replicate_zero,List.push_toArray,List.append_toArray,List.nil_append,List.cons_append]
  gi_wp2_with (refine ⟨trivial,?_⟩;gi_at_call 61;refine (callsIn_wide.2 (c_iCustomersOk L A c _ hA hn)).mono ?_;rw [H.out];rintro e w1 ⟨rfl,hb1⟩)
  have hbs:=hb1.size
  gi_wp2_with (refine ⟨trivial,?_⟩;gi_at_call 202;refine (workFrom0_in _ _ trivial rfl _ _ _ _).mono ?_;rintro e w' ⟨rfl,rfl⟩)
  obtain ⟨W0,hW0⟩:∃ W0,(w1.alloc (.cells #[.slice none 0 0] 194)).alloc (.cells #[.slice A L.length c] 28)=W0:=⟨_,rfl⟩
  have bA0:=(Boxed.new w1 194 (.slice none 0 0)).alloc (.cells #[.slice A L.length c] 28)
  have bL0:=heap_alloc_new (w1.alloc (.cells #[.slice none 0 0] 194)) (.cells #[.slice A L.length c] 28)
  simp only [World.size_alloc] at bL0
  have hB0:Below w.heap.size w ((w1.alloc (.cells #[.slice none 0 0] 194)).alloc (.cells #[.slice A L.length c] 28)):=(hb1.alloc hbs _).alloc (by simp;omega) _
  have hsz:((w1.alloc (.cells #[.slice none 0 0] 194)).alloc (.cells #[.slice A L.length c] 28)).heap.size=w1.heap.size+2:=by simp
  rw [hW0] at bA0 bL0 hB0 hsz ⊢
  clear hW0 hb1
  refine wpIn_rangeFunc_ownH rfl (by omega) (gf:=234) (lb:=#[.pointer (some ⟨w1.heap.size+1,0,none⟩)]) rfl trivial (enters_of Tryz.func234 (by kernel_rfl) rfl)
   (workFrom0_stops Fence.wide _ trivial rfl (by omega) (w1.heap.size+1) w.heap.size c A L H.out W0 (by omega) bL0 (hA.below hB0)) Kpt.t (Kpt.b (by omega) (by omega)) (Below.refl _ _) (fun _=>rfl)
   (fun pre W=>HoldsP W w1.heap.size (w1.heap.size+2) (busyOf L (pre.map Fin.val))∧(Below w.heap.size w W∧W0.heap.size<=W.heap.size))
   (fun _ _ _=>False)
   (OwnFrom.and (HoldsP.own _ _ _ _) (OwnFrom.and (ownFrom_below (Nat.le_refl _) (by omega)) (fun s A B row hs hg hr=>Nat.le_trans hs hg.size)))
   (fun _ _ _ _ _ hs _ _=>hs)
   ⟨⟨_,bA0,PO.nil _ _⟩,hB0,Nat.le_refl _⟩
   (fun x a' W=>a'={ tmps:=#[.slice A L.length c,undef,.slice none 0 0,.pointer (some ⟨w1.heap.size,0,none⟩),.int .i64 (x.1:Int),.int .i64 (wk L x.1),.slice A L.length c,.bool true,.bool false,.slice A L.length c,.func (.func 234) #[] #[.pointer (some ⟨w1.heap.size+1,0,none⟩)],.int .i64 (x.1:Int),.int .i64 (wk L x.1),undef,undef,undef,undef,undef,undef,undef,undef,undef],defers:=[] })
   (fun x a' _ P Q row hs hg hr=>hs)
   ?assign ?body ?done ?stop
  case assign =>
   rintro l pre x W K hI hK
   gi_wp2
   exact hK _ _ (KeepsFrom.refl _ _) ⟨Below.refl _ W,rfl⟩ hI rfl
  case body =>
   rintro l pre x a' W hl ⟨r,hr⟩ ⟨⟨v,bA,hown⟩,hB1,hZ⟩ rfl hlt
   have cA:=bA.cell
   have fA:=bA.frozen
   have bx:=x.2
   have hbl:=busyOf_len L (pre.map Fin.val)
   rw [List.length_map] at hbl
   have HS:=Lib.hid (busyOf_snoc L (pre.map Fin.val) x.1)
   have bw:=wk_nn H.out x.1
   by_cases hw:wk L x.1=0
   ·have hw':decide (0 < wk L x.1)=false:=decide_eq_false (by omega)
    have HS2:=Lib.hid (show busyOf L ((pre++[x]).map Fin.val)=busyOf L (pre.map Fin.val) by rw [List.map_append,List.map_cons,List.map_nil,HS.out,if_pos hw])
    clear HS hw
    gi_wp2
    exact ⟨KeepsFrom.refl _ _,⟨Below.refl _ W,rfl⟩,⟨v,bA,by rw [HS2.out];exact hown⟩,hB1,(by omega)⟩
   ·have hw':0 < wk L x.1:=by omega
    have HS2:=Lib.hid (show busyOf L ((pre++[x]).map Fin.val)=busyNext (busyOf L (pre.map Fin.val)) x.1 by rw [List.map_append,List.map_cons,List.map_nil,HS.out,if_neg hw])
    have HC:=Lib.hid (c_withPeriod (busyOf L (pre.map Fin.val)) x.1 (w1.heap.size+2) v W hown (by omega) (by omega))
    have hbv:=owns_base hown
    have hcv:=hown.cellsObj
    clear HS hw
    gi_wp2_with (refine ⟨trivial,?_⟩;gi_at_call 233;refine (callsIn_wide.2 HC.out).mono ?_;rintro e w5 ⟨v5,rfl,hown5,hgr5⟩;obtain ⟨O5,c5,rfl,-⟩:=hown5.form;have bA5:=bA.kept hgr5 (fun e=>by have:=hbv _ e.symm;omega);have cA5:=bA5.cell;have fA5:=bA5.frozen)
    refine ⟨((KeepsOthers.of_grownBy hgr5 (fun j o e ho=>hcv j o e ho)).trans (KeepsOthers.setCell _ _ _)).from _,⟨?_,?_⟩,⟨_,bA5.set _,?_⟩,?_,?_⟩
    ·exact ((Below.refl _ W).grown hgr5 hB1.size (fun k e=>by have:=hbv k e;omega)).setCell (p:=⟨w1.heap.size,0,none⟩) hbs _
    ·exact (Below.heap_setCell _ _ _ _ (show w1.heap.size+1≠w1.heap.size by omega)).trans (hgr5.block _ (by omega) (fun e=>by have:=hbv _ e.symm;omega))
    ·rw [HS2.out]
     exact hown5.kept (grownBy_setCell' _ _ _) (fun r hr e=>by have:=owns_base hown5 r hr;cases e;omega)
    ·exact (hB1.grown hgr5 hB1.size (fun k e=>by have:=hbv k e;omega)).setCell (p:=⟨w1.heap.size,0,none⟩) hbs _
    ·have:=hgr5.size;simp [World.setCell];omega
  case done =>
   rintro D ys W hD hys ⟨⟨v,bA,hown⟩,hB1,hZ⟩ hK
   have cA:=bA.cell
   rw [hys,busyOf_all H.out] at hown
   gi_wp2
   refine ⟨by simp,.inl ⟨_,_,rfl,run_takeDeferred hK,?_⟩⟩
   refine ⟨_,results_tmp rfl _ _ _,_,rfl,?_,hB1.trans (belowK_b (w:=w) (Nat.le_refl _) W D _ _ (by omega) hK rfl rfl)⟩
   exact (hown.mono (by omega)).kept (grownBy_putObj' W D _) (fun r hv e=>by cases e;have:=hown.cellsObj _ _ hv hK;cases this)
  case stop =>
   rintro D cd pre W _ _ h _
   exact h.elim
 ·have hno:cOk L=false:=by simpa using h
  have HV:=Lib.hid (busyP_no hno)
  have H:=Lib.hid hno;clear h hno
  go_enter Tryz.func198,Tryz.ntmps198
  go_wp2_with fail
  refine (c_iCustomersOk L A c _ hA hn).mono ?_
  rintro e w1 ⟨rfl,hb1⟩
  rw [H.out]
  go_wp2_with fail
  go_ret
  exact ⟨_,rfl,by rw [HV.out];exact PO.nil _ _,hb1⟩
end
section
attribute [local go_sem ↓] Go.wp_at_zero Go.wp_at_succ
theorem rows_take {B:List (Int×Int)} {k:Nat} (h:k < B.length):rows (B.take (k+1))=rows (B.take k)++[[X B k,Y B k]]:=by
 have e:B.take (k+1)=B.take k++[B[k]]:=by rw [List.take_add_one];simp [h]
 rw [e,rows_app]
 simp [X,Y,h]
theorem c_iBusyOf (L:List (Int×Int)) (A:Option Addr) (c:Nat) (w:World) (hA:Cs w w.heap.size A L) (hn:L.length<=140737488351232) :
  Calls Tryz.prog 168 #[.slice A L.length c] w fun e w'=>∃ v,e=.returned v∧(∃ vs,IOO w' w.heap.size v (rows (busyP L)) vs)∧Below w.heap.size w w':=by
 have hbl:=busyP_len L
 have KB:=Lib.hid (c_busyPeriods L A c w hA hn)
 generalize busyP L=B at KB hbl ⊢
 go_enter Tryz.func168,Tryz.ntmps168
 go_wp2_with fail
 refine KB.out.mono ?_
 rintro e w1 ⟨v1,rfl,o1,hb1⟩
 have hs1:=hb1.size
 obtain ⟨O,oc,rfl,hO⟩:=o1.form
 clear o1 KB
 have HO:=Lib.hid hO
 clear hO
 go_wp2_with fail
 go_loopw [3,9] (fun o i wr=>∃ (k:Nat) (vs:List Value),k<=B.length∧i=.int .i64 k∧IOO wr w1.heap.size o (rows (B.take k)) vs∧Below w1.heap.size w1 wr)
  (fun _ i _=>B.length - (intOf i).toNat)
 case atStart=>exact ⟨0,[],by omega,rfl,by simpa [rows] using IOO.nil w1 w1.heap.size,Below.refl _ _⟩
 case round =>
  obtain ⟨k,vs,hk,rfl,hown,hb⟩:=hrel
  have hsz:=hb.size
  by_cases hlt:k < B.length
  ·obtain ⟨g0,rfl,hg0,hg0lt,hcl,-⟩:=HO.out (by omega)
   have c1:=(hb.cell (p:=⟨g0,k * 2,none⟩) hg0lt).trans (hcl k hlt).1
   have c2:=(hb.cell (p:=⟨g0,k * 2+1,none⟩) hg0lt).trans (hcl k hlt).2
   have p1:(0:Int)<=(k:Int):=by omega
   have p2:(k:Int) < (B.length:Int):=by omega
   have hlen:(rows (B.take k)).length<=1000000000:=by rw [rows_len,List.length_take];omega
   have E:=Lib.hid (rows_take hlt)
   clear hcl
   go_wp2_with fail
   refine (c_row (X B k) (Y B k) _).mono ?_
   rintro e w5 ⟨rfl,hio,hb5⟩
   simp only [World.size_alloc] at hio
   have hba:Below wr.heap.size wr (wr.alloc (.cells #[.int .i64 (X B k),.int .i64 (Y B k)] 197)):=(Below.refl _ wr).alloc (Nat.le_refl _) _
   have hbx:Below wr.heap.size wr w5:=hba.trans (hb5.mono (by simp))
   have hbz:Below wr.heap.size wr (w5.alloc (.cells #[.slice (some ⟨wr.heap.size+1+1,0,none⟩) 2 2] 85)):=hbx.alloc hbx.size _
   have hio2:IO (w5.alloc (.cells #[.slice (some ⟨wr.heap.size+1+1,0,none⟩) 2 2] 85)) w1.heap.size (.slice (some ⟨wr.heap.size+1+1,0,none⟩) 2 2) [X B k,Y B k]:=(hio.mono (by omega)).alloc _
   have hsl:∀ r,(Value.slice (some ⟨wr.heap.size+1+1,0,none⟩) 2 2).ownBlock=some r->wr.heap.size<=r:=by intro r e;simp [Value.ownBlock] at e;omega
   have hbs:=hbz.size
   have HU:=Lib.hid (And.intro hbz (And.intro hio2 (And.intro hsl (And.intro hlen (Nat.le_trans hsz hbs)))))
   have HSP:=Lib.hid (show Sep w1.heap.size w1.heap.size u3 from fun r e=>.inr (owns_base hown.row r e))
   clear hba hbx hbz hio2 hsl hbs hb5 hio hlen
   go_wp2_with (refine app_OO ?_ (.tmp 13) (.tmp 16) ?_ w1.heap.size u3 (rows (B.take k)) vs wr (.slice (some ⟨wr.heap.size+1+1,0,none⟩) 2 2) [X B k,Y B k] w5.heap.size ?_ ?_ ?_ ?_ ?_ ?_ ?_ ?_ ?_ ?_ w1.heap.size w1.heap.size w1 ?_ ?_ ?_ ?_;rfl;rfl;rfl;exact hown;exact HU.out.1;exact HU.out.2.1;exact HU.out.2.2.1;rfl;rfl;exact (heap_alloc_new _ _);exact HU.out.2.2.2.1;exact HU.out.2.2.2.2;exact HSP.out;exact (fun b h1 h2=>absurd h1 (by omega));exact HU.out.2.2.2.2;intro g7 cap w7 hown7 hb70 hsep7 hmid7)
   go_roundw
   case rel=>exact ⟨k+1,_,by omega,by go_num,by rw [E.out];exact hown7,(hb.trans (HU.out.1.mono hsz)).trans hb70⟩
   case measure=>simp [intOf];omega
  ·have hlf:¬ ((k:Int) < (B.length:Int)):=by omega
   go_wp2_with fail
   go_ret
   refine ⟨_,rfl,⟨vs,?_⟩,hb1.trans (hb.mono hs1)⟩
   have e:B.take k=B:=List.take_of_length_le (by omega)
   rw [e] at hown
   exact hown.mono hs1
end
section
attribute [local go_sem ↓] Go.wp_at_zero Go.wp_at_succ
end
section
end
end Go.Proofs.YthpccmkagikhjaaGreatDoor

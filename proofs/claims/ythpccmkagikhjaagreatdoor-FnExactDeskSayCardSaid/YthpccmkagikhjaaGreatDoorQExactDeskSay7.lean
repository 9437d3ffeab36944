import Derived.Test.YthpccmkagikhjaaGreatDoorQExactDeskSay2
import Derived.Test.YthpccmkagikhjaaGreatDoorQExactDeskSay3
import Derived.Test.YthpccmkagikhjaaGreatDoorQExactDeskSay4
import Derived.Test.YthpccmkagikhjaaGreatDoorQExactDeskSay6
import Derived.Laws.IdiomStrings
import Derived.Laws.BytesString
import Derived.Laws.Concat
namespace Go.Proofs.YthpccmkagikhjaaGreatDoor
set_option linter.unusedVariables false
open Go.RowKit
set_option maxRecDepth 8000
set_option maxHeartbeats 8000000
section
attribute [local go_sem ↓] Go.wp_at_zero Go.wp_at_succ
section
variable {w:World}
theorem COO.growK {w':World} {base g cap:Nat} {v sl:Value} {xss:List (List (Int×Int))} {ys:List (Int×Int)} {vs:List Value}
  (h:COO w base v xss vs) (hin:CO w base sl ys) (hap:∀ r,sl.ownBlock=some r->v.ownBlock≠some r) (hai:∀ k,k < xss.length->∀ r,(vs.getD k undef).ownBlock=some r->sl.ownBlock≠some r)
  (h1:w'.ownsRow base 28 1 (.slice (some ⟨g,0,none⟩) (xss.length+1) cap) (xss.length+1) (vs++[sl])) (hg:w.grownBy w' v.ownBlock) (hat:v.ownBlock=some g∨w.heap.size<=g) :
  COO w' base (.slice (some ⟨g,0,none⟩) (xss.length+1) cap) (xss++[ys]) (vs++[sl]):=by
 have hln:=h.len
 have hsl2:=owns_lt hin
 have notg:∀ k,k < xss.length->∀ r,(vs.getD k undef).ownBlock=some r->r≠g:=by
  intro k hk r hr e
  subst e
  rcases hat with e2 | e2
  ·exact h.apart k hk _ hr e2
  ·have:=(h.inner_lt hk hr).1;omega
 refine ⟨by simpa using h1,fun k hk=>?_,fun k hk r hr e=>?_,fun i j hi hj hij r hr e=>?_⟩
 ·simp only [List.length_append,List.length_singleton] at hk
  rw [getD_app,getD_app,hln]
  by_cases e:k < xss.length
  ·rw [if_pos e,if_pos e]
   exact (h.inner k e).grownR' hg (fun r hr hr2=>h.apart k e r hr hr2)
  ·rw [if_neg e,if_neg e,if_pos (by omega),if_pos (by omega)]
   exact hin.grownR' hg (fun r hr hr2=>hap r hr hr2)
 ·simp only [List.length_append,List.length_singleton] at hk
  have eg:g=r:=by simpa [Value.ownBlock] using e
  subst eg
  rw [getD_app,hln] at hr
  by_cases e1:k < xss.length
  ·rw [if_pos e1] at hr
   exact notg k e1 _ hr rfl
  ·rw [if_neg e1,if_pos (by omega)] at hr
   have:=hsl2 _ hr
   rcases hat with e2 | e2
   ·exact hap _ hr e2
   ·omega
 ·simp only [List.length_append,List.length_singleton] at hi hj
  rw [getD_app,hln] at hr e
  by_cases e1:i < xss.length
  ·rw [if_pos e1] at hr
   by_cases e2:j < xss.length
   ·rw [if_pos e2] at e
    exact h.diff i j e1 e2 hij r hr e
   ·rw [if_neg e2,if_pos (by omega)] at e
    exact hai i e1 r hr e
  ·rw [if_neg e1,if_pos (by omega)] at hr
   by_cases e2:j < xss.length
   ·rw [if_pos e2] at e
    exact hai j e2 r e hr
   ·omega
theorem app_COk {ops:Array Oper} {rest:List Oper} {o:Oper} {a:Act} {Q:Exit->Act->World->Prop} (hgd:o.guard=none) (s x:Operand)
  (ho:o.op=.call { callee:=.builtin .append,args:=#[s,x],argTypes:=#[29,29] })
  (base:Nat) (v:Value) (xss:List (List (Int×Int))) (vs:List Value) (sl:Value) (ys:List (Int×Int)) (B:Nat) (hs:a.eval s=v) (hown:COO w base v xss vs)
  (hin:CO w base sl ys) (hap:∀ r,sl.ownBlock=some r->v.ownBlock≠some r) (hai:∀ k,k < xss.length->∀ r,(vs.getD k undef).ownBlock=some r->sl.ownBlock≠some r) (hone:sl.oneCell'=true) (hx:a.eval x=.slice (some ⟨B,0,none⟩) 1 1)
  (hB:w.heap[B]?=some (.cells #[sl] 28 (0,0))) (hlen:xss.length<=1000000000) (hbase:base<=w.heap.size)
  (h:∀ g cap w',COO w' base (.slice (some ⟨g,0,none⟩) (xss.length+1) cap) (xss++[ys]) (vs++[sl])->w.grownBy w' v.ownBlock->(v.ownBlock=some g∨g=w.heap.size)->Below base w w'->wpList Tryz.prog ops Q rest (a.put o.dst (.slice (some ⟨g,0,none⟩) (xss.length+1) cap)) w') :
  wpList Tryz.prog ops Q (o::rest) a w:=by
 obtain ⟨i0,hi0,hz0,hz1,hz2⟩:=info_parts infoCS
 refine wpList_append_lies w hgd s x _ ho base 28 i0 _ 1 24 Tryz.underlying29 hi0 hz0 hz1 hz2 rfl (by decide) v xss.length _ hs hown.row
  ⟨B,0,none⟩ 1 1 [sl] hx rfl (World.news_of_block (cs:=#[sl]) hB) (by simpa using hone) (by decide) (by simp only [maxLen];omega) (by omega) hbase _ rfl ?_
 intro g cap w' h1 h2 h3 _
 exact h g cap w' (hown.growK hin hap hai h1 h2 (h3.imp id (fun e=>by omega))) h2 h3 ((Below.refl _ _).grown h2 hbase (owns_base hown.row))
end
theorem made_ko {w8 wA w9 w12 w14:World} {base B R B3 bw g9 c9 gm:Nat} {Gm:Option Addr} {M N:List (Int×Int)} {P:List (List (Int×Int))} {us:List Value} {vN vP:Value}
  (hC8:CO w8 B3 (.slice Gm M.length gm) M) (hB3:B < B3) (hbA:Below w8.heap.size w8 wA) (hg9:wA.grownBy w9 vP.ownBlock) (hor9:vP.ownBlock=some g9∨g9=wA.heap.size) (hg12:w9.grownBy w12 (some B)) (hg14:w12.grownBy w14 (some R))
  (hRB:R < base) (hbw:bw<=base) (hbB:base<=B) (hBA:B < w8.heap.size)
  (hil:∀ j,j < P.length->∀ r,(us.getD j undef).ownBlock=some r->r < B) (hpl:∀ r,vP.ownBlock=some r->r < B) (hnl:∀ r,vN.ownBlock=some r->r < B)
  (o9:COO w9 base (.slice (some ⟨g9,0,none⟩) (P.length+1) c9) (P++[N]) (us++[vN])) :
  KO w14 bw (.slice Gm M.length gm) (.slice (some ⟨g9,0,none⟩) (P.length+1) c9) ⟨M,P++[N]⟩ (us++[vN]):=by
 have hml:=owns_lt hC8
 have hmb:=owns_base hC8
 have hln:=o9.len
 simp only [List.length_append,List.length_singleton] at hln
 have hzA:=hbA.size
 have hgB:g9≠B:=by
  rcases hor9 with h | h
  ·have:=hpl _ h;omega
  ·omega
 have hgm:∀ r,(Value.slice Gm M.length gm).ownBlock=some r->r≠g9:=by
  intro r hr e
  have h1:=hml r hr
  have h2:=hmb r hr
  rcases hor9 with h | h
  ·have:=hpl _ h;omega
  ·omega
 have hin:∀ j,j < (P++[N]).length->∀ r,((us++[vN]).getD j undef).ownBlock=some r->r < B:=by
  intro j hj r hr
  simp only [List.length_append,List.length_singleton] at hj
  rw [getD_app] at hr
  by_cases h:j < us.length
  ·rw [if_pos h] at hr;exact hil j (by omega) r hr
  ·rw [if_neg h,if_pos (by omega)] at hr;exact hnl r hr
 refine ⟨?_,?_,fun r hr e=>?_,fun j hj r hr e=>?_⟩
 ·have h1:=(hC8.below hbA (Nat.le_refl _)).grownR' hg9 (fun r hr e=>by have:=hmb r hr;have:=hpl r e;omega)
  have h2:=h1.grownR' hg12 (fun r hr e=>by cases e;have:=hmb _ hr;omega)
  exact (h2.grownR' hg14 (fun r hr e=>by cases e;have:=hmb _ hr;omega)).mono (by omega)
 ·have hp:=PL.ofCOO o9
  refine ((hp.kept hg12 (fun r hr e=>?_) (fun j hj r hr e=>?_)).kept hg14 (fun r hr e=>?_) (fun j hj r hr e=>?_)).mono hbw
  ·cases e
   exact hgB (by simpa [Value.ownBlock] using hr)
  ·cases e
   have:=hin j hj _ hr;omega
  ·cases e
   have:=owns_base o9.row R (by simpa [Value.ownBlock] using hr);omega
  ·cases e
   have:=(o9.inner_lt hj hr).2;omega
 ·have e2:g9=r:=by simpa [Value.ownBlock] using e
  exact hgm r hr e2.symm
 ·have h1:=hin j hj r hr
  have:=hmb r e
  omega
theorem made_cut {w:World} {base g c:Nat} {vn:Value} {M N:List (Int×Int)} {P:List (List (Int×Int))} {vs:List Value} (hp:0 < P.length) (h:KO w base vn (.slice (some ⟨g,0,none⟩) (P.length+1) c) ⟨M,P++[N]⟩ vs) :
  KO w base vn (.slice (some ⟨g,1,none⟩) P.length (c - 1)) ⟨M,(P++[N]).drop 1⟩ (vs.drop 1):=by
 have hc:=h.past.cutHead (by simp;omega)
 simp only [List.length_append,List.length_singleton,Nat.add_sub_cancel,Nat.zero_add] at hc
 refine ⟨h.now,hc,fun r hr e=>h.apn r hr (by simpa [Value.ownBlock] using e),fun j hj r hr e=>?_⟩
 simp only [List.length_drop,List.length_append,List.length_singleton] at hj
 have e2:(vs.drop 1).getD j undef=vs.getD (j+1) undef:=by simp [List.getD_eq_getElem?_getD]
 rw [e2] at hr
 exact h.api (j+1) (by simp;omega) r hr e
theorem pushP_cut {P:List (List (Int×Int))} {L:List (Int×Int)} (h:8 < P.length+1):pushP P L=(P++[L]).drop 1:=if_pos h
theorem pushP_no {P:List (List (Int×Int))} {L:List (Int×Int)} (h:¬ 8 < P.length+1):pushP P L=P++[L]:=if_neg h
def DoP (D:KV) (d:DV) (w:World) (e:Ending) (w':World):Prop :=
 ∃ vn vp vs,e=.returned (.tuple #[.agg #[vn,vp],.bool (deskDo D d).2])∧KO w' w.heap.size vn vp (deskDo D d).1 vs∧Below w.heap.size w w'
theorem do_no {D:KV} {d:DV} (h:deskOk D=false):deskDo D d=(noK,false):=by rw [deskDo,if_neg (by simp [h])]
theorem do_back {D:KV} (h:deskOk D=true) (hp:0 < D.past.length):deskDo D ⟨4,0,0⟩=(⟨LL D.past (D.past.length - 1),D.past.take (D.past.length - 1)⟩,true):=by rw [deskDo,if_pos h,if_pos ⟨rfl,hp⟩];rfl
theorem do_not {D:KV} {d:DV} (h:deskOk D=true) (hb:¬ (d=⟨4,0,0⟩∧0 < D.past.length)) (hm:(madeV D.now d).2=false):deskDo D d=(D,false):=by rw [deskDo,if_pos h,if_neg hb,if_neg (by simp [hm])]
theorem do_made {D:KV} {d:DV} (h:deskOk D=true) (hb:¬ (d=⟨4,0,0⟩∧0 < D.past.length)) (hm:(madeV D.now d).2=true):deskDo D d=(⟨(madeV D.now d).1,pushP D.past D.now⟩,true):=by rw [deskDo,if_pos h,if_neg hb,if_pos hm]
theorem KCO.keptLow {w w':World} {base r:Nat} {vn vp:Value} {D:KV} {vs:List Value} (h:KCO w base vn vp D vs) (hg:w.grownBy w' (some r)) (hr:r < base):KCO w' base vn vp D vs :=
 ⟨h.now.grownR' hg (fun k hk e=>by cases e;have:=owns_base h.now _ hk;omega),h.past.keptLow hg hr,h.apn,h.api⟩
def W2 (w:World) (B:Nat) (x y:Value):World:=(w.setCell ⟨B,0,none⟩ x).setCell ⟨B,1,none⟩ y
theorem W2_grown (w:World) (B:Nat) (x y:Value):w.grownBy (W2 w B x y) (some B):=(grown_set1 w B 0 x).trans (grown_set1 _ B 1 y)
theorem c_sDeskDo (D:KV) (vn vp:Value) (k a b:Int) (w:World) (hK:Ks w w.heap.size vn vp D) (hs:SmallK D) :
  Calls Tryz.prog 64 #[.agg #[vn,vp],.agg #[.int .i64 k,.int .i64 a,.int .i64 b]] w (DoP D ⟨k,a,b⟩ w):=by
 obtain ⟨w0,hw0⟩:∃ w0,((w.alloc (.cells #[vn,vp] 31)).alloc (.cells #[.int .i64 k,.int .i64 a,.int .i64 b] 39)).alloc (.cells #[.slice none 0 0,.slice none 0 0] 31)=w0:=⟨_,rfl⟩
 have hz0:w0.heap.size=w.heap.size+3:=by rw [<- hw0];simp
 have hb0:Below w.heap.size w w0:=by
  rw [<- hw0]
  exact (((Below.refl _ w).alloc (Nat.le_refl _) _).alloc (by simp) _).alloc (by simp;omega) _
 have bD:w0.heap[w.heap.size]?=some (.cells #[vn,vp] 31 (0,0)):=by
  rw [<- hw0]
  exact (Below.heap_alloc _ _ _ (by simp;omega)).trans ((Below.heap_alloc _ _ _ (by simp)).trans (heap_alloc_new _ _))
 have bA:w0.heap[w.heap.size+1]?=some (.cells #[.int .i64 k,.int .i64 a,.int .i64 b] 39 (0,0)):=by
  rw [<- hw0]
  exact (Below.heap_alloc _ _ _ (by simp)).trans (heap_newK _ _ _)
 have bR:w0.heap[w.heap.size+1+1]?=some (.cells #[.slice none 0 0,.slice none 0 0] 31 (0,0)):=by
  have:=heap_alloc_new ((w.alloc (.cells #[vn,vp] 31)).alloc (.cells #[.int .i64 k,.int .i64 a,.int .i64 b] 39)) (.cells #[.slice none 0 0,.slice none 0 0] 31)
  rw [hw0,World.size_alloc,World.size_alloc] at this
  exact this
 have hK0:=(hK.below hb0).more (show w.heap.size<=w0.heap.size by omega)
 have HO:=Lib.hid (c_sDeskOk D vn vp w0 hK0 hs)
 have d0:=cell_of_row _ w.heap.size 0 _ _ _ bD
 have d1:=cell_of_row _ w.heap.size 1 _ _ _ bD
 cases ho:deskOk D with
 | false =>
  have HV:=Lib.hid (do_no (d:=⟨k,a,b⟩) ho)
  have H:=Lib.hid ho
  clear ho hK hK0 hs
  go_enter Tryz.func64,Tryz.ntmps64
  go_wp2_with fail
  refine HO.out.mono ?_
  rintro e w1 ⟨rfl,hb1⟩
  rw [H.out]
  have b1:=(hb1.block (w.heap.size+1+1) (by omega)).trans bR
  have r0:=cell_of_row _ (w.heap.size+1+1) 0 _ _ _ b1
  have r1:=cell_of_row _ (w.heap.size+1+1) 1 _ _ _ b1
  have f0:w1.frozen? ⟨w.heap.size+1+1,0,none⟩=false:=unfrozen_of b1
  have f1:w1.frozen? ⟨w.heap.size+1+1,1,none⟩=false:=unfrozen_of b1
  clear hw0
  go_wp2_with fail
  have b7:=set2b (.slice none 0 0) (set2a (.slice none 0 0) b1)
  have k0:=cell_of_row _ (w.heap.size+1+1) 0 _ _ _ b7
  have k1:=cell_of_row _ (w.heap.size+1+1) 1 _ _ _ b7
  refine bodyPost_ret (v:=.tuple #[.agg #[.slice none 0 0,.slice none 0 0],.bool false]) (by simp [results,Tryz.f64,go_sem,k0,k1]) rfl ?_
  exact ⟨_,_,[],by rw [HV.out],by rw [HV.out];exact KO.zero _ _,(((hb0.trans (hb1.mono (by omega))).setCell (p:=⟨w.heap.size+1+1,0,none⟩) (by simp;omega) _).setCell (p:=⟨w.heap.size+1+1,1,none⟩) (by simp;omega) _)⟩
 | true =>
  have H:=Lib.hid ho
  have e0:=cell_of_row _ (w.heap.size+1) 0 _ _ _ bA
  have HCp:=Lib.hid (fun (w':World) (hb:Below w0.heap.size w0 w')=>c_sCopy D vn vp w' ((hK0.below hb).more hb.size) hs)
  obtain ⟨⟨An,cn,rfl,hcn,hN⟩,Ap,cp,rfl,hcp,hP⟩:=hK0
  have hpl:=(deskOk_parts ho).2.2
  have hnow:=(deskOk_parts ho).2.1
  clear hK hs
  go_enter Tryz.func64,Tryz.ntmps64
  go_wp2_with fail
  refine HO.out.mono ?_
  rintro e w1 ⟨rfl,hb1⟩
  rw [H.out]
  clear hw0
  have hz1:=hb1.size
  have g0:=(hb1.cell (p:=⟨w.heap.size,0,none⟩) (show w.heap.size < w0.heap.size by omega)).trans d0
  have g1:=(hb1.cell (p:=⟨w.heap.size,1,none⟩) (show w.heap.size < w0.heap.size by omega)).trans d1
  go_wp2_with fail
  refine (HCp.out _ hb1).mono ?_
  rintro e w2 ⟨un,up,us,rfl,hC,hb2⟩
  have hz2:=hb2.size
  have hx2:=hb1.trans (hb2.mono hz1)
  obtain ⟨Gn,gn,rfl,hgn,-⟩:=hC.now.formG
  obtain ⟨Gp,gp,rfl,hgp,hgm,hGp⟩:=hC.past.form
  obtain ⟨w3,hw3⟩:∃ w3,w2.alloc (.cells #[.slice Gn D.now.length gn,.slice Gp D.past.length gp] 31)=w3:=⟨_,rfl⟩
  have hz3:w2.heap.size < w3.heap.size:=by rw [<- hw3];simp
  have hb3:Below w2.heap.size w2 w3:=by rw [<- hw3];exact (Below.refl _ w2).alloc (Nat.le_refl _) _
  have bO:w3.heap[w2.heap.size]?=some (.cells #[.slice Gn D.now.length gn,.slice Gp D.past.length gp] 31 (0,0)):=by rw [<- hw3];exact heap_alloc_new _ _
  have hx3:=hx2.trans (hb3.mono (by omega))
  have m0:=(hx3.block w.heap.size (by omega)).trans bD
  have m1:=(hx3.block (w.heap.size+1) (by omega)).trans bA
  have m2:=(hx3.block (w.heap.size+1+1) (by omega)).trans bR
  have hbw:=hb0.trans (hx3.mono (by omega))
  have on3:CO w3 w1.heap.size (.slice Gn D.now.length gn) D.now:=hC.now.below hb3 (Nat.le_refl _)
  have op3:COO w3 w1.heap.size (.slice Gp D.past.length gp) D.past us:=hC.past.below hb3 (Nat.le_refl _)
  have q0:=cell_of_row _ w.heap.size 0 _ _ _ m0
  have q1:=cell_of_row _ w.heap.size 1 _ _ _ m0
  have q2:=cell_of_row _ (w.heap.size+1) 0 _ _ _ m1
  have q3:=cell_of_row _ (w.heap.size+1) 1 _ _ _ m1
  have q4:=cell_of_row _ (w.heap.size+1) 2 _ _ _ m1
  have q5:=cell_of_row _ w2.heap.size 0 _ _ _ bO
  have q6:=cell_of_row _ w2.heap.size 1 _ _ _ bO
  have HKO:=Lib.hid (show KCO w3 w1.heap.size (.slice Gn D.now.length gn) (.slice Gp D.past.length gp) D us from ⟨on3,op3,hC.apn,hC.api⟩)
  have hnl:=owns_lt hC.now
  have hpl2:=owns_lt hC.past.row
  have hil:∀ j,j < D.past.length->∀ r,(us.getD j undef).ownBlock=some r->r < w2.heap.size:=fun j hj r hr=>(hC.past.inner_lt hj hr).1
  clear g0 g1 d0 d1 e0 hC hGp
  by_cases hback:(k=4∧a=0∧b=0)∧0 < D.past.length
  ·obtain ⟨⟨rfl,rfl,rfl⟩,hp⟩:=hback
   have HV:=Lib.hid (do_back H.out hp)
   have p1:(0:Int) < (D.past.length:Int):=by omega
   obtain ⟨g,rfl⟩:∃ g,Gp=some ⟨g,0,none⟩:=by
    obtain ⟨A',c',e,-,-,h⟩:=op3.form
    injection e with e1 _ _
    obtain ⟨g,e2,-⟩:=h hp
    exact ⟨g,e1.trans e2⟩
   obtain ⟨-,hgc,hgf⟩:=op3.cells
   have hin:CO w3 w1.heap.size (us.getD (D.past.length - 1) undef) (LL D.past (D.past.length - 1)):=op3.inner (D.past.length - 1) (by omega)
   have e1:=hgc (D.past.length - 1) (by omega)
   obtain ⟨Gl,gl,hfl,-,-⟩:=hin.formG
   rw [hfl] at e1 hin
   obtain ⟨vl,hvl⟩:∃ vl,Value.slice Gl (LL D.past (D.past.length - 1)).length gl=vl:=⟨_,rfl⟩
   obtain ⟨vq,hvq⟩:∃ vq,Value.slice (some ⟨g,0,none⟩) (D.past.length - 1) gp=vq:=⟨_,rfl⟩
   obtain ⟨w4,hw4⟩:∃ w4,w3.setCell ⟨w2.heap.size,0,none⟩ (.slice Gl (LL D.past (D.past.length - 1)).length gl)=w4:=⟨_,rfl⟩
   obtain ⟨w5,hw5⟩:∃ w5,w4.setCell ⟨w2.heap.size,1,none⟩ (.slice (some ⟨g,0,none⟩) (D.past.length - 1) gp)=w5:=⟨_,rfl⟩
   obtain ⟨w6,hw6⟩:∃ w6,w5.setCell ⟨w.heap.size+1+1,0,none⟩ (.slice Gl (LL D.past (D.past.length - 1)).length gl)=w6:=⟨_,rfl⟩
   obtain ⟨w7,hw7⟩:∃ w7,w6.setCell ⟨w.heap.size+1+1,1,none⟩ (.slice (some ⟨g,0,none⟩) (D.past.length - 1) gp)=w7:=⟨_,rfl⟩
   have b4:w4.heap[w2.heap.size]?=some (.cells #[.slice Gl (LL D.past (D.past.length - 1)).length gl,.slice (some ⟨g,0,none⟩) D.past.length gp] 31 (0,0)):=by rw [<- hw4];exact set2a _ bO
   have b5:w5.heap[w2.heap.size]?=some (.cells #[.slice Gl (LL D.past (D.past.length - 1)).length gl,.slice (some ⟨g,0,none⟩) (D.past.length - 1) gp] 31 (0,0)):=by rw [<- hw5];exact set2b _ b4
   have h4:=cell_of_row _ w2.heap.size 1 _ _ _ b4
   have h5a:=cell_of_row _ w2.heap.size 0 _ _ _ b5
   have h5b:=cell_of_row _ w2.heap.size 1 _ _ _ b5
   have f3:w3.frozen? ⟨w2.heap.size,0,none⟩=false:=unfrozen_of bO
   have f4:w4.frozen? ⟨w2.heap.size,1,none⟩=false:=unfrozen_of b4
   have hg5:w3.grownBy w5 (some w2.heap.size):=by rw [<- hw5,<- hw4];exact W2_grown w3 w2.heap.size _ _
   have hg7:w5.grownBy w7 (some (w.heap.size+1+1)):=by rw [<- hw7,<- hw6];exact W2_grown w5 _ _ _
   have b6:w5.heap[w.heap.size+1+1]?=some (.cells #[.slice none 0 0,.slice none 0 0] 31 (0,0)):=(hg5.block _ (by omega) (by simp;omega)).trans m2
   have b6':w6.heap[w.heap.size+1+1]?=some (.cells #[.slice Gl (LL D.past (D.past.length - 1)).length gl,.slice none 0 0] 31 (0,0)):=by rw [<- hw6];exact set2a _ b6
   have r0:=cell_of_row _ (w.heap.size+1+1) 0 _ _ _ b6
   have r1:=cell_of_row _ (w.heap.size+1+1) 1 _ _ _ b6'
   have fr0:w5.frozen? ⟨w.heap.size+1+1,0,none⟩=false:=unfrozen_of b6
   have fr1:w6.frozen? ⟨w.heap.size+1+1,1,none⟩=false:=unfrozen_of b6'
   have HB7:Hid (w7.heap[w.heap.size+1+1]?=some (.cells #[.slice Gl (LL D.past (D.past.length - 1)).length gl,.slice (some ⟨g,0,none⟩) (D.past.length - 1) gp] 31 (0,0))):=by rw [<- hw7];exact set2b _ b6'
   have hgb:=owns_base op3.row g (by simp [Value.ownBlock])
   have HF:=Lib.hid (show KO w7 w.heap.size (.slice Gl (LL D.past (D.past.length - 1)).length gl) (.slice (some ⟨g,0,none⟩) (D.past.length - 1) gp) ⟨LL D.past (D.past.length - 1),D.past.take (D.past.length - 1)⟩ (us.take (D.past.length - 1)) from by
    have hbi:=owns_base hin
    have hli:∀ r,(Value.slice Gl (LL D.past (D.past.length - 1)).length gl).ownBlock=some r->r < w2.heap.size:=fun r hr=>hil (D.past.length - 1) (by omega) r (by rw [hfl];exact hr)
    have hus:∀ j,j < D.past.length - 1->(us.take (D.past.length - 1)).getD j undef=us.getD j undef:=fun j hj=>by simp [List.getD_eq_getElem?_getD,List.getElem?_take_of_lt hj]
    have hpc:=(PL.ofCOO op3).cutLast hp
    have hlt:(D.past.take (D.past.length - 1)).length=D.past.length - 1:=by rw [List.length_take];omega
    refine ⟨((hin.grownR' hg5 (fun r hr e=>by cases e;have:=hli _ hr;omega)).grownR' hg7 (fun r hr e=>by cases e;have:=hbi _ hr;omega)).mono (by omega),?_,fun r hr e=>?_,fun j hj r hr e=>?_⟩
    ·refine ((hpc.kept hg5 (fun r hr e=>?_) (fun j hj r hr e=>?_)).kept hg7 (fun r hr e=>?_) (fun j hj r hr e=>?_)).mono (by omega)
     ·cases e
      have:=hpl2 w2.heap.size (by simpa [Value.ownBlock] using hr);omega
     ·cases e
      rw [hlt] at hj
      rw [hus j hj] at hr
      have:=hil j (by omega) _ hr;omega
     ·cases e
      have:=owns_base op3.row (w.heap.size+1+1) (by simpa [Value.ownBlock] using hr);omega
     ·cases e
      rw [hlt] at hj
      rw [hus j hj] at hr
      have:=(op3.inner_lt (by omega) hr).2;omega
    ·exact op3.apart (D.past.length - 1) (by omega) r (by rw [hfl];exact hr) (by simpa [Value.ownBlock] using e)
    ·simp only [hlt] at hj
     rw [hus j hj] at hr
     exact op3.diff j (D.past.length - 1) (by omega) (by omega) (by omega) r hr (by rw [hfl];exact e))
   have HW:=Lib.hid (show Below w.heap.size w w7 from (hbw.grown hg5 (by omega) (fun k e=>by cases e;omega)).grown hg7 (by have:=hg5.size;omega) (fun k e=>by cases e;omega))
   clear b4 b5 b6 b6' hin hgc hgf on3 op3 hg5 hg7 m0 m1 m2 bO hvl hvq hil hnl hpl2
   go_wp2_with fail
   have b7:=HB7.out
   have k0:=cell_of_row _ (w.heap.size+1+1) 0 _ _ _ b7
   have k1:=cell_of_row _ (w.heap.size+1+1) 1 _ _ _ b7
   refine bodyPost_ret (v:=.tuple #[.agg #[.slice Gl (LL D.past (D.past.length - 1)).length gl,.slice (some ⟨g,0,none⟩) (D.past.length - 1) gp],.bool true]) (by simp [results,Tryz.f64,go_sem,k0,k1]) rfl ?_
   exact ⟨_,_,us.take (D.past.length - 1),by rw [HV.out],by rw [HV.out];exact HF.out,HW.out⟩
  ·have hnb:¬ ((⟨k,a,b⟩:DV)=⟨4,0,0⟩∧0 < D.past.length):=by
    rintro ⟨e,hp⟩
    injection e with e1 e2 e3
    exact hback ⟨⟨e1,e2,e3⟩,hp⟩
   have hways:¬ k=4∨(k=4∧¬ a=0)∨(k=4∧a=0∧¬ b=0)∨(k=4∧a=0∧b=0∧¬ (0:Int) < (D.past.length:Int)):=by omega
   have HMd:=Lib.hid (fun (k a b:Int)=>c_sMade D.now An cn k a b w3 ((hN.below hx3).more (by omega)) hcn hnow)
   clear hback
   cases hmv:(madeV D.now ⟨k,a,b⟩).2 with
   | false =>
    have HV:=Lib.hid (do_not H.out hnb hmv)
    rcases hways with n1 | ⟨rfl,n1⟩ | ⟨rfl,rfl,n1⟩ | ⟨rfl,rfl,rfl,n1⟩
    all_goals
     have HMV:=Lib.hid hmv
     clear hmv hnb
     go_wp2_with fail
     refine (HMd.out _ _ _).mono ?_
     rintro e w8 ⟨v8,rfl,-,hb8⟩
     rw [HMV.out]
     have hz8:=hb8.size
     have b8:=(hb8.block w2.heap.size hz3).trans bO
     have c8:=(hb8.block (w.heap.size+1+1) (by omega)).trans m2
     obtain ⟨w6,hw6⟩:∃ w6,w8.setCell ⟨w.heap.size+1+1,0,none⟩ (.slice Gn D.now.length gn)=w6:=⟨_,rfl⟩
     obtain ⟨w7,hw7⟩:∃ w7,w6.setCell ⟨w.heap.size+1+1,1,none⟩ (.slice Gp D.past.length gp)=w7:=⟨_,rfl⟩
     have b6':w6.heap[w.heap.size+1+1]?=some (.cells #[.slice Gn D.now.length gn,.slice none 0 0] 31 (0,0)):=by rw [<- hw6];exact set2a _ c8
     have h8a:=cell_of_row _ w2.heap.size 0 _ _ _ b8
     have h8b:=cell_of_row _ w2.heap.size 1 _ _ _ b8
     have r0:=cell_of_row _ (w.heap.size+1+1) 0 _ _ _ c8
     have r1:=cell_of_row _ (w.heap.size+1+1) 1 _ _ _ b6'
     have fr0:w8.frozen? ⟨w.heap.size+1+1,0,none⟩=false:=unfrozen_of c8
     have fr1:w6.frozen? ⟨w.heap.size+1+1,1,none⟩=false:=unfrozen_of b6'
     have HB7:Hid (w7.heap[w.heap.size+1+1]?=some (.cells #[.slice Gn D.now.length gn,.slice Gp D.past.length gp] 31 (0,0))):=by rw [<- hw7];exact set2b _ b6'
     have hg7:w8.grownBy w7 (some (w.heap.size+1+1)):=by rw [<- hw7,<- hw6];exact W2_grown w8 _ _ _
     have HF:=Lib.hid (show KO w7 w.heap.size (.slice Gn D.now.length gn) (.slice Gp D.past.length gp) D us from
      ((KCO.mk (on3.below hb8 (Nat.le_refl _)) (op3.below hb8 (Nat.le_refl _)) HKO.out.apn HKO.out.api).keptLow hg7 (by omega)).ko.mono (by omega))
     have HW:=Lib.hid (show Below w.heap.size w w7 from (hbw.trans (hb8.mono (by omega))).grown hg7 (by have:=hb8.size;omega) (fun k e=>by cases e;omega))
     clear b8 c8 b6' hg7 m0 m1 m2 bO on3 op3 hil hnl hpl2 q0 q1 q2 q3 q4 q5 q6
     go_wp2_with fail
     have b7:=HB7.out
     have k0:=cell_of_row _ (w.heap.size+1+1) 0 _ _ _ b7
     have k1:=cell_of_row _ (w.heap.size+1+1) 1 _ _ _ b7
     refine bodyPost_ret (v:=.tuple #[.agg #[.slice Gn D.now.length gn,.slice Gp D.past.length gp],.bool false]) (by simp [results,Tryz.f64,go_sem,k0,k1]) rfl ?_
     exact ⟨_,_,us,by rw [HV.out],by rw [HV.out];exact HF.out,HW.out⟩
   | true =>
    have hv:=do_made H.out hnb hmv
    by_cases h8:8 < D.past.length+1
    ·have p8:(8:Int) < (D.past.length:Int)+1:=by omega
     have n1:¬ k=4:=by
      rintro rfl
      rw [made_no (by omega) (by omega) (by omega) (by omega)] at hmv
      cases hmv
     ·skip
      have HMV:=Lib.hid hmv
      have HV:=Lib.hid hv
      clear hmv hnb hv
      go_wp2_with fail
      refine (HMd.out _ _ _).mono ?_
      rintro e w8 ⟨v8,rfl,hC8,hb8⟩
      have hC8:=hC8 HMV.out
      rw [HMV.out]
      have HV2:=Lib.hid HV.out
      clear HV
      generalize (madeV D.now _).1=M at *
      obtain ⟨Gm,gm,rfl,hgm1,-⟩:=hC8.formG
      have hz8:=hb8.size
      have hml:=owns_lt hC8
      have hmb:=owns_base hC8
      have b8:=(hb8.block w2.heap.size hz3).trans bO
      have c8:=(hb8.block (w.heap.size+1+1) (by omega)).trans m2
      obtain ⟨wA,hwA⟩:∃ wA,w8.alloc (.cells #[.slice Gn D.now.length gn] 28)=wA:=⟨_,rfl⟩
      have hzA:wA.heap.size=w8.heap.size+1:=by rw [<- hwA];simp
      have hbA:Below w8.heap.size w8 wA:=by rw [<- hwA];exact (Below.refl _ w8).alloc (Nat.le_refl _) _
      have hBA:wA.heap[w8.heap.size]?=some (.cells #[.slice Gn D.now.length gn] 28 (0,0)):=by rw [<- hwA];exact heap_alloc_new _ _
      have h8a:=cell_of_row _ w2.heap.size 0 _ _ _ b8
      have h8b:=cell_of_row _ w2.heap.size 1 _ _ _ b8
      have onA:CO wA w1.heap.size (.slice Gn D.now.length gn) D.now:=(on3.below hb8 (Nat.le_refl _)).below hbA (Nat.le_refl _)
      have opA:COO wA w1.heap.size (.slice Gp D.past.length gp) D.past us:=(op3.below hb8 (Nat.le_refl _)).below hbA (Nat.le_refl _)
      go_wp2_with (
        refine app_COk ?_ (.tmp 52) (.tmp 55) ?_ w1.heap.size (.slice Gp D.past.length gp) D.past us (.slice Gn D.now.length gn) D.now w8.heap.size ?_ opA onA HKO.out.apn HKO.out.api ?_ ?_ ?_ ?_ ?_ ?_
        ·rfl
        ·rfl
        ·rfl
        ·rfl
        ·rfl
        ·exact hBA
        ·omega
        ·omega
        intro g9 c9 w9 o9 hg9 hor9 hb9
        have hz9:=hb9.size
        have b9:=(hg9.block w2.heap.size (by omega) (fun e=>by have:=hpl2 _ e.symm;omega)).trans ((hbA.block w2.heap.size (by omega)).trans b8)
        have d9:=(hb9.block (w.heap.size+1+1) (by omega)).trans ((hbA.block (w.heap.size+1+1) (by omega)).trans c8)
        obtain ⟨w10,hw10⟩:∃ w10,w9.setCell ⟨w2.heap.size,1,none⟩ (.slice (some ⟨g9,0,none⟩) (D.past.length+1) c9)=w10:=⟨_,rfl⟩
        have b10:w10.heap[w2.heap.size]?=some (.cells #[.slice Gn D.now.length gn,.slice (some ⟨g9,0,none⟩) (D.past.length+1) c9] 31 (0,0)):=by rw [<- hw10];exact set2b _ b9
        have h9:=cell_of_row _ w2.heap.size 1 _ _ _ b9
        have f9:w9.frozen? ⟨w2.heap.size,1,none⟩=false:=unfrozen_of b9
        have h10a:=cell_of_row _ w2.heap.size 0 _ _ _ b10
        have h10:=cell_of_row _ w2.heap.size 1 _ _ _ b10
        have f10:w10.frozen? ⟨w2.heap.size,0,none⟩=false:=unfrozen_of b10
        have f10b:w10.frozen? ⟨w2.heap.size,1,none⟩=false:=unfrozen_of b10
        have hc9:D.past.length+1<=c9:=by obtain ⟨A',c',e,h,-⟩:=o9.form;injection e with _ _ e3;rw [e3];simpa using h
        have hcp9:1 < c9:=by omega
        have hcq9:¬ c9=1:=by omega
        obtain ⟨w11,hw11⟩:∃ w11,w10.setCell ⟨w2.heap.size,1,none⟩ (.slice (some ⟨g9,1,none⟩) D.past.length (c9 - 1))=w11:=⟨_,rfl⟩
        have b11:w11.heap[w2.heap.size]?=some (.cells #[.slice Gn D.now.length gn,(.slice (some ⟨g9,1,none⟩) D.past.length (c9 - 1))] 31 (0,0)):=by rw [<- hw11];exact set2b _ b10
        have h11:=cell_of_row _ w2.heap.size 0 _ _ _ b11
        have f11:w11.frozen? ⟨w2.heap.size,0,none⟩=false:=unfrozen_of b11
        obtain ⟨w12,hw12⟩:∃ w12,w11.setCell ⟨w2.heap.size,0,none⟩ (.slice Gm M.length gm)=w12:=⟨_,rfl⟩
        have b12:w12.heap[w2.heap.size]?=some (.cells #[.slice Gm M.length gm,(.slice (some ⟨g9,1,none⟩) D.past.length (c9 - 1))] 31 (0,0)):=by rw [<- hw12];exact set2a _ b11
        have h12a:=cell_of_row _ w2.heap.size 0 _ _ _ b12
        have h12b:=cell_of_row _ w2.heap.size 1 _ _ _ b12
        have hg12:w9.grownBy w12 (some w2.heap.size):=by
         rw [<- hw12,<- hw11,<- hw10]
         exact ((grown_set1 w9 _ _ _).trans (grown_set1 _ _ _ _)).trans (grown_set1 _ _ _ _)
        have d12:=(hg12.block (w.heap.size+1+1) (by omega) (by simp;omega)).trans d9
        obtain ⟨w13,hw13⟩:∃ w13,w12.setCell ⟨w.heap.size+1+1,0,none⟩ (.slice Gm M.length gm)=w13:=⟨_,rfl⟩
        obtain ⟨w14,hw14⟩:∃ w14,w13.setCell ⟨w.heap.size+1+1,1,none⟩ (.slice (some ⟨g9,1,none⟩) D.past.length (c9 - 1))=w14:=⟨_,rfl⟩
        have d13:w13.heap[w.heap.size+1+1]?=some (.cells #[.slice Gm M.length gm,.slice none 0 0] 31 (0,0)):=by rw [<- hw13];exact set2a _ d12
        have r0:=cell_of_row _ (w.heap.size+1+1) 0 _ _ _ d12
        have r1:=cell_of_row _ (w.heap.size+1+1) 1 _ _ _ d13
        have fr0:w12.frozen? ⟨w.heap.size+1+1,0,none⟩=false:=unfrozen_of d12
        have fr1:w13.frozen? ⟨w.heap.size+1+1,1,none⟩=false:=unfrozen_of d13
        have HB14:Hid (w14.heap[w.heap.size+1+1]?=some (.cells #[.slice Gm M.length gm,(.slice (some ⟨g9,1,none⟩) D.past.length (c9 - 1))] 31 (0,0))):=by rw [<- hw14];exact set2b _ d13
        have hg14:w12.grownBy w14 (some (w.heap.size+1+1)):=by rw [<- hw14,<- hw13];exact W2_grown w12 _ _ _
        have HF:=Lib.hid (show KO w14 w.heap.size (.slice Gm M.length gm) (.slice (some ⟨g9,1,none⟩) D.past.length (c9 - 1)) ⟨M,(D.past++[D.now]).drop 1⟩ ((us++[Value.slice Gn D.now.length gn]).drop 1) from made_cut (by omega) (made_ko hC8 hz3 hbA hg9 hor9 hg12 hg14 (by omega) (by omega) (by omega) (by omega) hil hpl2 hnl o9))
        have HW:=Lib.hid (show Below w.heap.size w w14 from ((((hbw.trans (hb8.mono (by omega))).trans (hbA.mono (by omega))).trans (hb9.mono (by omega))).grown hg12 (by omega) (fun k e=>by cases e;omega)).grown hg14 (by have:=hg12.size;omega) (fun k e=>by cases e;omega))
        clear b8 c8 b9 d9 b10 b11 b12 d12 d13 hg9 hg12 hg14 m0 m1 m2 bO on3 op3 hil hnl hpl2 onA opA o9 hC8 hor9)
      go_wp2_with fail
      have b7:=HB14.out
      have k0:=cell_of_row _ (w.heap.size+1+1) 0 _ _ _ b7
      have k1:=cell_of_row _ (w.heap.size+1+1) 1 _ _ _ b7
      refine bodyPost_ret (v:=.tuple #[.agg #[.slice Gm M.length gm,(.slice (some ⟨g9,1,none⟩) D.past.length (c9 - 1))],.bool true]) (by simp [results,Tryz.f64,go_sem,k0,k1]) rfl ?_
      exact ⟨_,_,_,by rw [HV2.out],by rw [HV2.out,pushP_cut h8];exact HF.out,HW.out⟩
    ·have p8:¬ (8:Int) < (D.past.length:Int)+1:=by omega
     have n1:¬ k=4:=by
      rintro rfl
      rw [made_no (by omega) (by omega) (by omega) (by omega)] at hmv
      cases hmv
     ·skip
      have HMV:=Lib.hid hmv
      have HV:=Lib.hid hv
      clear hmv hnb hv
      go_wp2_with fail
      refine (HMd.out _ _ _).mono ?_
      rintro e w8 ⟨v8,rfl,hC8,hb8⟩
      have hC8:=hC8 HMV.out
      rw [HMV.out]
      have HV2:=Lib.hid HV.out
      clear HV
      generalize (madeV D.now _).1=M at *
      obtain ⟨Gm,gm,rfl,hgm1,-⟩:=hC8.formG
      have hz8:=hb8.size
      have hml:=owns_lt hC8
      have hmb:=owns_base hC8
      have b8:=(hb8.block w2.heap.size hz3).trans bO
      have c8:=(hb8.block (w.heap.size+1+1) (by omega)).trans m2
      obtain ⟨wA,hwA⟩:∃ wA,w8.alloc (.cells #[.slice Gn D.now.length gn] 28)=wA:=⟨_,rfl⟩
      have hzA:wA.heap.size=w8.heap.size+1:=by rw [<- hwA];simp
      have hbA:Below w8.heap.size w8 wA:=by rw [<- hwA];exact (Below.refl _ w8).alloc (Nat.le_refl _) _
      have hBA:wA.heap[w8.heap.size]?=some (.cells #[.slice Gn D.now.length gn] 28 (0,0)):=by rw [<- hwA];exact heap_alloc_new _ _
      have h8a:=cell_of_row _ w2.heap.size 0 _ _ _ b8
      have h8b:=cell_of_row _ w2.heap.size 1 _ _ _ b8
      have onA:CO wA w1.heap.size (.slice Gn D.now.length gn) D.now:=(on3.below hb8 (Nat.le_refl _)).below hbA (Nat.le_refl _)
      have opA:COO wA w1.heap.size (.slice Gp D.past.length gp) D.past us:=(op3.below hb8 (Nat.le_refl _)).below hbA (Nat.le_refl _)
      go_wp2_with (
        refine app_COk ?_ (.tmp 52) (.tmp 55) ?_ w1.heap.size (.slice Gp D.past.length gp) D.past us (.slice Gn D.now.length gn) D.now w8.heap.size ?_ opA onA HKO.out.apn HKO.out.api ?_ ?_ ?_ ?_ ?_ ?_
        ·rfl
        ·rfl
        ·rfl
        ·rfl
        ·rfl
        ·exact hBA
        ·omega
        ·omega
        intro g9 c9 w9 o9 hg9 hor9 hb9
        have hz9:=hb9.size
        have b9:=(hg9.block w2.heap.size (by omega) (fun e=>by have:=hpl2 _ e.symm;omega)).trans ((hbA.block w2.heap.size (by omega)).trans b8)
        have d9:=(hb9.block (w.heap.size+1+1) (by omega)).trans ((hbA.block (w.heap.size+1+1) (by omega)).trans c8)
        obtain ⟨w10,hw10⟩:∃ w10,w9.setCell ⟨w2.heap.size,1,none⟩ (.slice (some ⟨g9,0,none⟩) (D.past.length+1) c9)=w10:=⟨_,rfl⟩
        have b10:w10.heap[w2.heap.size]?=some (.cells #[.slice Gn D.now.length gn,.slice (some ⟨g9,0,none⟩) (D.past.length+1) c9] 31 (0,0)):=by rw [<- hw10];exact set2b _ b9
        have h9:=cell_of_row _ w2.heap.size 1 _ _ _ b9
        have f9:w9.frozen? ⟨w2.heap.size,1,none⟩=false:=unfrozen_of b9
        have h10a:=cell_of_row _ w2.heap.size 0 _ _ _ b10
        have h10:=cell_of_row _ w2.heap.size 1 _ _ _ b10
        have f10:w10.frozen? ⟨w2.heap.size,0,none⟩=false:=unfrozen_of b10
        obtain ⟨w12,hw12⟩:∃ w12,w10.setCell ⟨w2.heap.size,0,none⟩ (.slice Gm M.length gm)=w12:=⟨_,rfl⟩
        have b12:w12.heap[w2.heap.size]?=some (.cells #[.slice Gm M.length gm,(.slice (some ⟨g9,0,none⟩) (D.past.length+1) c9)] 31 (0,0)):=by rw [<- hw12];exact set2a _ b10
        have h12a:=cell_of_row _ w2.heap.size 0 _ _ _ b12
        have h12b:=cell_of_row _ w2.heap.size 1 _ _ _ b12
        have hg12:w9.grownBy w12 (some w2.heap.size):=by
         rw [<- hw12,<- hw10]
         exact (grown_set1 w9 _ _ _).trans (grown_set1 _ _ _ _)
        have d12:=(hg12.block (w.heap.size+1+1) (by omega) (by simp;omega)).trans d9
        obtain ⟨w13,hw13⟩:∃ w13,w12.setCell ⟨w.heap.size+1+1,0,none⟩ (.slice Gm M.length gm)=w13:=⟨_,rfl⟩
        obtain ⟨w14,hw14⟩:∃ w14,w13.setCell ⟨w.heap.size+1+1,1,none⟩ (.slice (some ⟨g9,0,none⟩) (D.past.length+1) c9)=w14:=⟨_,rfl⟩
        have d13:w13.heap[w.heap.size+1+1]?=some (.cells #[.slice Gm M.length gm,.slice none 0 0] 31 (0,0)):=by rw [<- hw13];exact set2a _ d12
        have r0:=cell_of_row _ (w.heap.size+1+1) 0 _ _ _ d12
        have r1:=cell_of_row _ (w.heap.size+1+1) 1 _ _ _ d13
        have fr0:w12.frozen? ⟨w.heap.size+1+1,0,none⟩=false:=unfrozen_of d12
        have fr1:w13.frozen? ⟨w.heap.size+1+1,1,none⟩=false:=unfrozen_of d13
        have HB14:Hid (w14.heap[w.heap.size+1+1]?=some (.cells #[.slice Gm M.length gm,(.slice (some ⟨g9,0,none⟩) (D.past.length+1) c9)] 31 (0,0))):=by rw [<- hw14];exact set2b _ d13
        have hg14:w12.grownBy w14 (some (w.heap.size+1+1)):=by rw [<- hw14,<- hw13];exact W2_grown w12 _ _ _
        have HF:=Lib.hid (show KO w14 w.heap.size (.slice Gm M.length gm) (.slice (some ⟨g9,0,none⟩) (D.past.length+1) c9) ⟨M,D.past++[D.now]⟩ (us++[.slice Gn D.now.length gn]) from made_ko hC8 hz3 hbA hg9 hor9 hg12 hg14 (by omega) (by omega) (by omega) (by omega) hil hpl2 hnl o9)
        have HW:=Lib.hid (show Below w.heap.size w w14 from ((((hbw.trans (hb8.mono (by omega))).trans (hbA.mono (by omega))).trans (hb9.mono (by omega))).grown hg12 (by omega) (fun k e=>by cases e;omega)).grown hg14 (by have:=hg12.size;omega) (fun k e=>by cases e;omega))
        clear b8 c8 b9 d9 b10 b12 d12 d13 hg9 hg12 hg14 m0 m1 m2 bO on3 op3 hil hnl hpl2 onA opA o9 hC8 hor9)
      go_wp2_with fail
      have b7:=HB14.out
      have k0:=cell_of_row _ (w.heap.size+1+1) 0 _ _ _ b7
      have k1:=cell_of_row _ (w.heap.size+1+1) 1 _ _ _ b7
      refine bodyPost_ret (v:=.tuple #[.agg #[.slice Gm M.length gm,(.slice (some ⟨g9,0,none⟩) (D.past.length+1) c9)],.bool true]) (by simp [results,Tryz.f64,go_sem,k0,k1]) rfl ?_
      exact ⟨_,_,_,by rw [HV2.out],by rw [HV2.out,pushP_no h8];exact HF.out,HW.out⟩
end
section
attribute [local go_sem ↓] Go.wp_at_zero Go.wp_at_succ
def bs (l:List UInt8):ByteArray:=⟨l.toArray⟩
theorem bs_append (x y:List UInt8):bs x++bs y=bs (x++y):=ByteArray.mk_append_mk x y
theorem bs_size (x:List UInt8):(bs x).size=x.length:=by simp [bs,ByteArray.size]
theorem bs_list (x:List UInt8):(bs x).toList=x:=ByteArray.toList_mk x
theorem run_conv1 (c:UInt8) (x:Int) (hx:x=(c.toNat:Int)) (w:World) :
  (convert 22 9 (.slice (some ⟨w.heap.size,0,none⟩) 1 1)).run Tryz.prog (w.alloc (.cells #[.int .u8 x] 5))=.ok (.string (bs [c])) (w.alloc (.cells #[.int .u8 x] 5)):=by
 have:=run_convert_bytes_back (P:=Tryz.prog) (w.alloc (.cells #[.int .u8 x] 5)) 22 9 5 ⟨w.heap.size,0,none⟩ 1 [c] Tryz.underlying22 Tryz.underlying5 Tryz.underlying9
  (fun j hj=>by
    have hj0:j=0:=by simpa using hj
    subst hj0
    have:=World.cell?_alloc_mark w #[.int .u8 x] 5 (0,0) 0
    simp [Addr.add,hx] at this ⊢)
 exact this
theorem run_conv2 (c:UInt8) (x:Int) (hx:x=(c.toNat:Int)) (w:World) (B:Nat) (hc:w.cell? ⟨B,0,none⟩=some (.int .u8 x)) :
  (convert 22 9 (.slice (some ⟨B,0,none⟩) 1 1)).run Tryz.prog w=.ok (.string (bs [c])) w :=
 run_convert_bytes_back (P:=Tryz.prog) w 22 9 5 ⟨B,0,none⟩ 1 [c] Tryz.underlying22 Tryz.underlying5 Tryz.underlying9
  (fun j hj=>by
    have hj0:j=0:=by simpa using hj
    subst hj0
    simpa [Addr.add,hx] using hc)
theorem c_sNumber:∀ (n:Nat) (w:World),n<=1000000000 ->
  Calls Tryz.prog 65 #[.int .i64 (n:Int)] w fun e w'=>e=.returned (.string (bs (numL n)))∧Below w.heap.size w w':=by
 intro n
 induction n using Nat.strongRecOn with
 | _ n ih =>
  intro w hn
  have hd:=dig8_nat n
  by_cases h:n < 10
  ·have hE:=Lib.hid (numL_one h)
   have d1:decide ((n:Int) < 10)=true:=decide_eq_true (by omega)
   have p0:¬ ((n:Int) < 0):=by omega
   have p1:(0:Int)<=(n:Int):=by omega
   have q1:IntKind.i64.wrap (48+(n:Int))=48+(n:Int):=IntWalk.i64_in _ (by omega)
   have hcv:=run_conv1 (dig8 n) (48+(n:Int)) (by omega) w
   have hbz:Below w.heap.size w (w.alloc (.cells #[.int .u8 (48+(n:Int))] 5)):=by (repeat (first | exact rfl | exact Below.refl _ _ | (with_reducible refine Below.drew ?_) | (with_reducible refine Below.drewN ?_ _) | (with_reducible refine Below.alloc ?_ ?_ _) | (with_reducible refine Below.setCell ?_ ?_ _) | (show _<=_;focus (first | omega | (simp;done) | (simp;omega)))))
   clear ih hd
   go_enter Tryz.func65,Tryz.ntmps65
   go_wp2_with fail
   go_ret
   exact ⟨by rw [hE.out];rfl,hbz⟩
  ·have hE0:=numL_more h
   have hb9:n % 10 < 10:=Nat.mod_lt _ (by omega)
   have hl9:=numL_len 8 (n / 10) (by omega)
   obtain ⟨m,hm⟩:∃ m:Nat,n / 10=m:=⟨_,rfl⟩
   obtain ⟨r,hr⟩:∃ r:Nat,n % 10=r:=⟨_,rfl⟩
   have d1:decide ((n:Int) < 10)=false:=decide_eq_false (by omega)
   have q2:(n:Int).tdiv 10=(m:Int):=by rw [Int.tdiv_eq_ediv_of_nonneg (by omega)];omega
   have q3:(n:Int).tmod 10=(r:Int):=by rw [Int.tmod_eq_emod_of_nonneg (by omega)];omega
   have q4:IntKind.i64.wrap (48+(r:Int))=48+(r:Int):=IntWalk.i64_in _ (by omega)
   have q5:IntKind.i64.wrap (m:Int)=(m:Int):=IntWalk.i64_in _ (by omega)
   have hcv:=fun W=>run_conv1 (dig8 n) (48+(r:Int)) (by omega) W
   have hcv2:=fun W B=>run_conv2 (dig8 n) (48+(r:Int)) (by omega) W B
   have q6:IntKind.u8.wrap (48+(r:Int))=48+(r:Int):=by show (48+(r:Int)) % 256=_;omega
   have HC:=Lib.hid (fun W=>ih m (by omega) W (by omega))
   rw [hm] at hl9 hE0
   have hE:=Lib.hid hE0
   have z1:(bs (numL m)).size<=9:=by rw [bs_size];omega
   have z2:(bs [dig8 n]).size=1:=by rw [bs_size];rfl
   have hz:¬ ((bs (numL m)).size+(bs [dig8 n]).size > 9223372036854775807):=by omega
   generalize hdg:dig8 n=dg at *
   have HDG:=Lib.hid hdg
   generalize hnm:numL m=nm at *
   clear ih hd hE0 hdg hnm h hb9 hl9 hm hr z1 z2
   go_enter Tryz.func65,Tryz.ntmps65
   go_wp2_with fail
   go_region_with (go_at_call 65;refine (HC.out _).mono ?_;rintro e w6 ⟨rfl,hb6⟩;first | (have hc6:w6.cell? ⟨w.heap.size,0,none⟩=some (.int .u8 (48+(r:Int))):=(hb6.cell (p:=⟨w.heap.size,0,none⟩) (by simp)).trans (World.cell?_alloc_mark w.drew #[.int .u8 (48+(r:Int))] 5 (0,0) 0)) | skip)
   all_goals
    have kx:Below w.heap.size w w6:=by
     first
      | exact (Below.refl _ _).drew.trans hb6
      | exact (((Below.refl _ w).alloc (Nat.le_refl _) _).drew).trans (hb6.mono (by simp))
    have ky:=fun o=>kx.alloc kx.size o
    have hV:=hE.out
    clear q2 q3 q4 q5 q6 hcv hcv2 hz
    go_wp2_with fail
    go_ret
    exact ⟨by rw [hV,<- bs_append];rfl,by first | exact kx | exact ky _⟩
end
section
theorem infoStr:(Tryz.prog.info? 9).map (fun i=>(i.zero,i.size,i.bytes))=some (some (.string ⟨#[]⟩),1,16):=by kernel_rfl
def ZS (xs:List (List UInt8)) (k:Nat):List UInt8:=xs.getD k []
def sv (x:List UInt8):Value:=.string (bs x)
def Ss (w:World) (B:Nat) (A:Option Addr) (xs:List (List UInt8)):Prop :=
 0 < xs.length->∃ b off,A=some ⟨b,off,none⟩∧b < B∧∀ k,k < xs.length->w.cell? ⟨b,off+k,none⟩=some (.string (bs (ZS xs k)))
theorem Ss.below {w w':World} {B:Nat} {A:Option Addr} {xs:List (List UInt8)} (h:Ss w B A xs) (hb:Below B w w'):Ss w' B A xs:=by
 intro hn
 obtain ⟨b,off,rfl,hlt,hc⟩:=h hn
 exact ⟨b,off,rfl,hlt,fun k hk=>(hb.cell (p:=⟨b,_,none⟩) hlt).trans (hc k hk)⟩
theorem Ss.more {w:World} {B B':Nat} {A:Option Addr} {xs:List (List UInt8)} (h:Ss w B A xs) (hb:B<=B'):Ss w B' A xs:=by
 intro hn
 obtain ⟨b,off,rfl,hlt,hc⟩:=h hn
 exact ⟨b,off,rfl,by omega,hc⟩
def SO (w:World) (base:Nat) (v:Value) (xs:List (List UInt8)):Prop:=w.ownsRow base 9 1 v xs.length (xs.map sv)
theorem SO.nil (w:World) (base:Nat):SO w base (.slice none 0 0) []:=⟨rfl,.inl ⟨rfl,rfl⟩⟩
theorem SO.empty (w:World) {base:Nat} (h:base<=w.heap.size):SO (w.alloc (.cells #[] 9)) base (.slice (some ⟨w.heap.size,0,none⟩) 0 0) [] :=
 ⟨rfl,.inr ⟨w.heap.size,0,#[],rfl,h,heap_alloc_new _ _,Nat.le_refl _,by simp [maxLen],rfl,rfl⟩⟩
theorem SO.below {w w':World} {base B:Nat} {v:Value} {xs:List (List UInt8)} (h:SO w base v xs) (hb:Below B w w') (hB:w.heap.size<=B):SO w' base v xs:=owns_below h hb hB
theorem SO.mono {w:World} {base base':Nat} {v:Value} {xs:List (List UInt8)} (h:SO w base v xs) (hB:base'<=base):SO w base' v xs:=owns_mono h hB
theorem SO.form {w:World} {base:Nat} {v:Value} {xs:List (List UInt8)} (h:SO w base v xs):∃ A c,v=.slice A xs.length c∧xs.length<=c∧c<=maxLen∧Ss w w.heap.size A xs:=by
 have hl:=owns_lt h
 rcases h.2 with ⟨rfl,h0⟩ | ⟨g,cap,cur,rfl,hg,hh,h1,h2,h3,h4⟩
 ·exact ⟨none,0,by rw [h0],by omega,by simp [maxLen],fun hp=>by omega⟩
 ·refine ⟨_,cap,rfl,h1,h2,fun hp=>⟨g,0,rfl,hl g (by simp [Value.ownBlock]),fun k hk=>?_⟩⟩
  rw [World.ownsRow.cellAt h (0+k) (by omega)]
  simp [ZS,sv,hk]
theorem SO.cells {w:World} {base g n c:Nat} {M:List (List UInt8)} (h:SO w base (.slice (some ⟨g,0,none⟩) n c) M) :
  n=M.length∧(∀ k,k < n->w.cell? ⟨g,k,none⟩=some (.string (bs (ZS M k))))∧∀ j,w.frozen? ⟨g,j,none⟩=false:=by
 have hn:n=M.length:=by
  rcases h.2 with ⟨h2,_⟩ | ⟨g',cap,cur,h2,_⟩
  ·cases h2
  ·injection h2
 subst hn
 refine ⟨rfl,fun k hk=>?_,fun j=>World.ownsRow.frozenAt h j⟩
 rw [World.ownsRow.cellAt h k (by omega)]
 simp [ZS,sv,hk]
theorem SO.alloc {w:World} {base:Nat} {v:Value} {xs:List (List UInt8)} (h:SO w base v xs) (o:Obj):SO (w.alloc o) base v xs:=World.ownsRow.alloc h o
theorem SO.drew {w:World} {base:Nat} {v:Value} {xs:List (List UInt8)} (h:SO w base v xs):SO w.drew base v xs:=h
section
variable {w:World}
theorem app_S {ops:Array Oper} {rest:List Oper} {o:Oper} {a:Act} {Q:Exit->Act->World->Prop} (hgd:o.guard=none) (s x:Operand)
  (ho:o.op=.call { callee:=.builtin .append,args:=#[s,x],argTypes:=#[48,48] })
  (base:Nat) (v:Value) (xs:List (List UInt8)) (y:List UInt8) (B:Nat) (hs:a.eval s=v) (hown:SO w base v xs) (hx:a.eval x=.slice (some ⟨B,0,none⟩) 1 1)
  (hB:w.heap[B]?=some (.cells #[.string (bs y)] 9 (0,0))) (hlen:xs.length<=1000000000000) (hbase:base<=w.heap.size)
  (h:∀ g cap w',SO w' base (.slice (some ⟨g,0,none⟩) (xs.length+1) cap) (xs++[y])->w.grownBy w' v.ownBlock->Below base w w'->wpList Tryz.prog ops Q rest (a.put o.dst (.slice (some ⟨g,0,none⟩) (xs.length+1) cap)) w') :
  wpList Tryz.prog ops Q (o::rest) a w:=by
 obtain ⟨i0,hi,hz0,hz1,hz2⟩:=info_parts infoStr
 refine wpList_append_lies w hgd s x _ ho base 9 i0 _ 1 16 Tryz.underlying48 hi hz0 hz1 hz2 rfl (by decide) v xs.length _ hs hown
  ⟨B,0,none⟩ 1 1 [.string (bs y)] hx rfl (World.news_of_block (cs:=#[.string (bs y)]) hB) (by simp [Value.oneCell']) (by decide) (by simp only [maxLen];omega) (by omega) hbase _ rfl ?_
 intro g cap w' h1 h2 _ _
 exact h g cap w' (by simpa [SO,sv] using h1) h2 ((Below.refl _ _).grown h2 hbase (owns_base hown))
end
theorem SO.isOf {w:World} {base n c:Nat} {A:Option Addr} {xs:List (List UInt8)} (h:SO w base (.slice A n c) xs):n=xs.length∧Ss w w.heap.size A xs:=by
 obtain ⟨A',c',e,_,_,h'⟩:=h.form
 injection e with e1 e2 e3
 subst e1
 exact ⟨e2,h'⟩
end
section
theorem infoDe:(Tryz.prog.info? 39).map (fun i=>(i.zero,i.size,i.bytes))=some (some (.agg #[.int .i64 0,.int .i64 0,.int .i64 0]),3,24):=by kernel_rfl
def ZD (L:List DV) (k:Nat):DV:=L.getD k ⟨0,0,0⟩
def flatD (L:List DV):List Value:=L.flatMap fun d=>[.int .i64 d.k,.int .i64 d.a,.int .i64 d.b]
theorem flatD_len (L:List DV):(flatD L).length=L.length * 3:=by
 induction L with
 | nil=>rfl
 | cons c L ih=>simp [flatD] at ih ⊢;omega
theorem flatD_at (L:List DV):∀ k,k < L.length->(flatD L)[k * 3]?=some (.int .i64 (ZD L k).k)∧(flatD L)[k * 3+1]?=some (.int .i64 (ZD L k).a)∧(flatD L)[k * 3+2]?=some (.int .i64 (ZD L k).b):=by
 induction L with
 | nil=>intro k hk;simp at hk
 | cons c L ih =>
  intro k hk
  cases k with
  | zero=>exact ⟨rfl,rfl,rfl⟩
  | succ k =>
   have:=ih k (by simpa using hk)
   have e1:(k+1) * 3=k * 3+1+1+1:=by omega
   have e2:(k+1) * 3+1=k * 3+1+1+1+1:=by omega
   have e3:(k+1) * 3+2=k * 3+2+1+1+1:=by omega
   rw [e2,e3,e1]
   simp only [flatD,List.flatMap_cons,List.cons_append,List.nil_append,List.getElem?_cons_succ,ZD,List.getD_cons_succ] at this ⊢
   exact this
theorem flatD_snoc (L:List DV) (d:DV):flatD (L++[d])=flatD L++[.int .i64 d.k,.int .i64 d.a,.int .i64 d.b]:=by simp [flatD]
def Ds3 (w:World) (B:Nat) (A:Option Addr) (L:List DV):Prop :=
 0 < L.length->∃ b off,A=some ⟨b,off,none⟩∧b < B∧∀ k,k < L.length->w.cell? ⟨b,off+k * 3,none⟩=some (.int .i64 (ZD L k).k)∧w.cell? ⟨b,off+k * 3+1,none⟩=some (.int .i64 (ZD L k).a)∧w.cell? ⟨b,off+k * 3+2,none⟩=some (.int .i64 (ZD L k).b)
theorem Ds3.below {w w':World} {B:Nat} {A:Option Addr} {L:List DV} (h:Ds3 w B A L) (hb:Below B w w'):Ds3 w' B A L:=by
 intro hn
 obtain ⟨b,off,rfl,hlt,hc⟩:=h hn
 exact ⟨b,off,rfl,hlt,fun k hk=>⟨(hb.cell (p:=⟨b,_,none⟩) hlt).trans (hc k hk).1,(hb.cell (p:=⟨b,_,none⟩) hlt).trans (hc k hk).2.1,(hb.cell (p:=⟨b,_,none⟩) hlt).trans (hc k hk).2.2⟩⟩
theorem Ds3.more {w:World} {B B':Nat} {A:Option Addr} {L:List DV} (h:Ds3 w B A L) (hb:B<=B'):Ds3 w B' A L:=by
 intro hn
 obtain ⟨b,off,rfl,hlt,hc⟩:=h hn
 exact ⟨b,off,rfl,by omega,hc⟩
def EO (w:World) (base:Nat) (v:Value) (L:List DV):Prop:=w.ownsRow base 39 3 v L.length (flatD L)
theorem EO.nil (w:World) (base:Nat):EO w base (.slice none 0 0) []:=⟨rfl,.inl ⟨rfl,rfl⟩⟩
theorem EO.empty (w:World) {base:Nat} (h:base<=w.heap.size):EO (w.alloc (.cells #[] 39)) base (.slice (some ⟨w.heap.size,0,none⟩) 0 0) [] :=
 ⟨rfl,.inr ⟨w.heap.size,0,#[],rfl,h,heap_alloc_new _ _,Nat.le_refl _,by simp [maxLen],rfl,rfl⟩⟩
theorem EO.below {w w':World} {base B:Nat} {v:Value} {xs:List DV} (h:EO w base v xs) (hb:Below B w w') (hB:w.heap.size<=B):EO w' base v xs:=owns_below h hb hB
theorem EO.mono {w:World} {base base':Nat} {v:Value} {xs:List DV} (h:EO w base v xs) (hB:base'<=base):EO w base' v xs:=owns_mono h hB
theorem EO.alloc {w:World} {base:Nat} {v:Value} {xs:List DV} (h:EO w base v xs) (o:Obj):EO (w.alloc o) base v xs:=World.ownsRow.alloc h o
theorem EO.drew {w:World} {base:Nat} {v:Value} {xs:List DV} (h:EO w base v xs):EO w.drew base v xs:=h
theorem EO.form {w:World} {base:Nat} {v:Value} {L:List DV} (h:EO w base v L):∃ A c,v=.slice A L.length c∧L.length<=c∧c<=maxLen∧Ds3 w w.heap.size A L:=by
 have hl:=owns_lt h
 rcases h.2 with ⟨rfl,h0⟩ | ⟨g,cap,cur,rfl,hg,hh,h1,h2,h3,h4⟩
 ·exact ⟨none,0,by rw [h0],by omega,by simp [maxLen],fun hp=>by omega⟩
 ·refine ⟨_,cap,rfl,h1,h2,fun hp=>⟨g,0,rfl,hl g (by simp [Value.ownBlock]),fun k hk=>?_⟩⟩
  have:=flatD_at L k hk
  refine ⟨?_,?_,?_⟩
  ·rw [Nat.zero_add,World.ownsRow.cellAt h (k * 3) (by omega)];exact this.1
  ·rw [Nat.zero_add,World.ownsRow.cellAt h (k * 3+1) (by omega)];exact this.2.1
  ·rw [Nat.zero_add,World.ownsRow.cellAt h (k * 3+2) (by omega)];exact this.2.2
theorem EO.isOf {w:World} {base n c:Nat} {A:Option Addr} {xs:List DV} (h:EO w base (.slice A n c) xs):n=xs.length∧Ds3 w w.heap.size A xs:=by
 obtain ⟨A',c',e,_,_,h'⟩:=h.form
 injection e with e1 e2 e3
 subst e1
 exact ⟨e2,h'⟩
section
variable {w:World}
end
end
section
attribute [local go_sem ↓] Go.wp_at_zero Go.wp_at_succ
theorem KO.keptLow {w w':World} {base r:Nat} {vn vp:Value} {D:KV} {vs:List Value} (h:KO w base vn vp D vs) (hg:w.grownBy w' (some r)) (hr:r < base):KO w' base vn vp D vs :=
 ⟨h.now.grownR' hg (fun k hk e=>by cases e;have:=owns_base h.now _ hk;omega),
   h.past.kept hg (fun k hk e=>by cases e;have:=(h.past.base_lt _ hk).1;omega) (fun j hj k hk e=>by cases e;have:=owns_base (h.past.inner j hj) _ hk;omega),h.apn,h.api⟩
theorem KO.slices {w:World} {base:Nat} {vn vp:Value} {D:KV} {vs:List Value} (h:KO w base vn vp D vs):∃ A c A' c',vn=.slice A D.now.length c∧vp=.slice A' D.past.length c':=by
 obtain ⟨⟨A,c,e1,-,-⟩,A',c',e2,-,-⟩:=h.ks
 exact ⟨A,c,A',c',e1,e2⟩
end
end Go.Proofs.YthpccmkagikhjaaGreatDoor

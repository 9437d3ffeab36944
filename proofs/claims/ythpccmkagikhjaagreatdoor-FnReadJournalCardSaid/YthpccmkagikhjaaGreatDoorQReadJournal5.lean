import Derived.Test.YthpccmkagikhjaaGreatDoorQReadJournal2
import Derived.Test.YthpccmkagikhjaaGreatDoorQReadJournal4
import Derived.Deep.RegionLaw
namespace Go.Proofs.YthpccmkagikhjaaGreatDoor
set_option linter.unusedVariables false
open Go.RowKit
set_option maxRecDepth 8000
set_option maxHeartbeats 8000000
section
def LL (Ls:List (List (Int×Int))) (k:Nat):List (Int×Int):=Ls.getD k []
theorem LL_get {Ls:List (List (Int×Int))} {k:Nat} (h:k < Ls.length):LL Ls k=Ls[k]:=by simp [LL,h]
def Css (w:World) (B:Nat) (A:Option Addr) (Ls:List (List (Int×Int))):Prop :=
 0 < Ls.length->∃ b off,A=some ⟨b,off,none⟩∧b < B∧∀ k,k < Ls.length->∃ Ak ck,w.cell? ⟨b,off+k,none⟩=some (.slice Ak (LL Ls k).length ck)∧(LL Ls k).length<=ck∧Cs w B Ak (LL Ls k)
theorem Css.below {w w':World} {B:Nat} {A:Option Addr} {Ls:List (List (Int×Int))} (h:Css w B A Ls) (hb:Below B w w'):Css w' B A Ls:=by
 intro hn
 obtain ⟨b,off,rfl,hlt,hc⟩:=h hn
 refine ⟨b,off,rfl,hlt,fun k hk=>?_⟩
 obtain ⟨Ak,ck,h1,h2,h3⟩:=hc k hk
 exact ⟨Ak,ck,(hb.cell (p:=⟨b,_,none⟩) hlt).trans h1,h2,h3.below hb⟩
theorem Css.more {w:World} {B B':Nat} {A:Option Addr} {Ls:List (List (Int×Int))} (h:Css w B A Ls) (hb:B<=B'):Css w B' A Ls:=by
 intro hn
 obtain ⟨b,off,rfl,hlt,hc⟩:=h hn
 refine ⟨b,off,rfl,by omega,fun k hk=>?_⟩
 obtain ⟨Ak,ck,h1,h2,h3⟩:=hc k hk
 exact ⟨Ak,ck,h1,h2,h3.more hb⟩
theorem Css.nil (w:World) (B:Nat) (A:Option Addr):Css w B A []:=fun h=>by simp at h
structure PL (w:World) (base:Nat) (v:Value) (Ls:List (List (Int×Int))) (vs:List Value):Prop where
 row:(v=.slice none 0 0∧Ls=[])∨∃ g off c,v=.slice (some ⟨g,off,none⟩) Ls.length c∧Ls.length<=c∧c<=maxLen∧base<=g∧g < w.heap.size ∧
  (∀ k,k < Ls.length->w.cell? ⟨g,off+k,none⟩=some (vs.getD k undef))∧∀ j,j < c->(w.cell? ⟨g,off+j,none⟩).isSome=true∧w.frozen? ⟨g,off+j,none⟩=false
 len:vs.length=Ls.length
 inner:∀ k,k < Ls.length->CO w base (vs.getD k undef) (LL Ls k)
 apart:∀ k,k < Ls.length->∀ r,(vs.getD k undef).ownBlock=some r->v.ownBlock≠some r
 diff:∀ i j,i < Ls.length->j < Ls.length->i≠j->∀ r,(vs.getD i undef).ownBlock=some r->(vs.getD j undef).ownBlock≠some r
theorem PL.ofCOO {w:World} {base:Nat} {v:Value} {Ls:List (List (Int×Int))} {vs:List Value} (h:COO w base v Ls vs):PL w base v Ls vs:=by
 have hl:=owns_lt h.row
 refine ⟨?_,h.len,h.inner,h.apart,h.diff⟩
 rcases h.row.2 with ⟨rfl,h0⟩ | ⟨g,cap,cur,rfl,hg,hh,h1,h2,h3,h4⟩
 ·exact .inl ⟨rfl,List.length_eq_zero_iff.1 h0⟩
 ·obtain ⟨_,hc,hf⟩:=h.cells
  refine .inr ⟨g,0,cap,rfl,h1,h2,hg,hl g (by simp [Value.ownBlock]),fun k hk=>by rw [Nat.zero_add];exact hc k hk,fun j hj=>?_⟩
  rw [Nat.zero_add]
  refine ⟨?_,hf j⟩
  rw [cell_of_row w g j cur _ _ hh,Array.getElem?_eq_getElem (by omega)];rfl
theorem PL.base_lt {w:World} {base:Nat} {v:Value} {Ls:List (List (Int×Int))} {vs:List Value} (h:PL w base v Ls vs):∀ r,v.ownBlock=some r->base<=r∧r < w.heap.size:=by
 intro r hr
 rcases h.row with ⟨rfl,_⟩ | ⟨g,off,c,rfl,_,_,h3,h4,_⟩
 ·simp [Value.ownBlock] at hr
 ·have e:g=r:=by simpa [Value.ownBlock] using hr
  subst e
  exact ⟨h3,h4⟩
theorem PL.kept {w w':World} {base:Nat} {row:Option Nat} {v:Value} {Ls:List (List (Int×Int))} {vs:List Value} (h:PL w base v Ls vs) (hg:w.grownBy w' row) (hr:∀ r,v.ownBlock=some r->row≠some r)
  (hri:∀ k,k < Ls.length->∀ r,(vs.getD k undef).ownBlock=some r->row≠some r):PL w' base v Ls vs:=by
 refine ⟨?_,h.len,fun k hk=>(h.inner k hk).grownR' hg (hri k hk),h.apart,h.diff⟩
 rcases h.row with h0 | ⟨g,off,c,rfl,h1,h2,h3,h4,h5,h6⟩
 ·exact .inl h0
 ·have hb:∀ o,(w'.heap[(⟨g,o,none⟩:Addr).block]?)=w.heap[(⟨g,o,none⟩:Addr).block]?:=fun o=>hg.block g h4 fun e=>hr g (by simp [Value.ownBlock]) e.symm
  exact .inr ⟨g,off,c,rfl,h1,h2,h3,Nat.lt_of_lt_of_le h4 hg.size,fun j hj=>(World.cell?_of_block (hb _)).trans (h5 j hj),fun j hj=>by
   have:=h6 j hj
   rw [World.cell?_of_block (hb _),World.frozen?_of_block (hb _)]
   exact this⟩
theorem PL.below {w w':World} {base B:Nat} {v:Value} {Ls:List (List (Int×Int))} {vs:List Value} (h:PL w base v Ls vs) (hb:Below B w w') (hB:w.heap.size<=B):PL w' base v Ls vs :=
 h.kept (row:=none) ⟨hb.os,hb.tape,hb.output,hb.size,fun k hk _=>hb.block k (by omega)⟩ (fun _ _ e=>by cases e) (fun _ _ _ _ e=>by cases e)
theorem PL.mono {w:World} {base base':Nat} {v:Value} {Ls:List (List (Int×Int))} {vs:List Value} (h:PL w base v Ls vs) (hB:base'<=base):PL w base' v Ls vs:=by
 refine ⟨?_,h.len,fun k hk=>(h.inner k hk).mono hB,h.apart,h.diff⟩
 rcases h.row with h0 | ⟨g,off,c,rfl,h1,h2,h3,h4,h5,h6⟩
 ·exact .inl h0
 ·exact .inr ⟨g,off,c,rfl,h1,h2,by omega,h4,h5,h6⟩
theorem PL.nil (w:World) (base:Nat):PL w base (.slice none 0 0) [] []:=⟨.inl ⟨rfl,rfl⟩,rfl,fun k h=>by simp at h,fun k h=>by simp at h,fun i j h=>by simp at h⟩
theorem PL.css {w:World} {base n c:Nat} {A:Option Addr} {Ls:List (List (Int×Int))} {vs:List Value} (h:PL w base (.slice A n c) Ls vs):n=Ls.length∧Ls.length<=c∧Css w w.heap.size A Ls:=by
 rcases h.row with ⟨e,h0⟩ | ⟨g,off,c',e,h1,h2,h3,h4,h5,h6⟩
 ·injection e with e1 e2 e3
  subst h0 e2 e3
  exact ⟨rfl,Nat.le_refl _,Css.nil _ _ _⟩
 ·injection e with e1 e2 e3
  subst e1 e2 e3
  refine ⟨rfl,h1,fun _=>⟨g,off,rfl,h4,fun k hk=>?_⟩⟩
  obtain ⟨Ak,ck,e,hc1,_,hcs⟩:=(h.inner k hk).form
  exact ⟨Ak,ck,by rw [h5 k hk,e],hc1,hcs⟩
theorem PL.cutLast {w:World} {base g off n c:Nat} {Ls:List (List (Int×Int))} {vs:List Value} (h:PL w base (.slice (some ⟨g,off,none⟩) n c) Ls vs) (hn:0 < Ls.length) :
  PL w base (.slice (some ⟨g,off,none⟩) (Ls.length - 1) c) (Ls.take (Ls.length - 1)) (vs.take (Ls.length - 1)):=by
 have hlt:∀ k,k < (Ls.take (Ls.length - 1)).length->k < Ls.length - 1∧(vs.take (Ls.length - 1)).getD k undef=vs.getD k undef∧LL (Ls.take (Ls.length - 1)) k=LL Ls k:=by
  intro k hk
  rw [List.length_take] at hk
  refine ⟨by omega,?_,?_⟩ <;> simp [LL,List.getD_eq_getElem?_getD,List.getElem?_take_of_lt (show k < Ls.length - 1 by omega)]
 refine ⟨?_,by have:=h.len;simp;omega,fun k hk=>?_,fun k hk r hr=>?_,fun i j hi hj hij r hr=>?_⟩
 ·rcases h.row with ⟨e,_⟩ | ⟨g',off',c',e,h1,h2,h3,h4,h5,h6⟩
  ·injection e with e1;cases e1
  ·injection e with e1 e2 e3
   injection e1 with e1
   injection e1 with e1 e4 _
   subst e1 e2 e3 e4
   refine .inr ⟨g,off,c,by rw [List.length_take,Nat.min_eq_left (by omega)],by rw [List.length_take];omega,h2,h3,h4,fun k hk=>?_,h6⟩
   rw [(hlt k hk).2.1];exact h5 k (by have:=(hlt k hk).1;omega)
 ·rw [(hlt k hk).2.1,(hlt k hk).2.2];exact h.inner k (by have:=(hlt k hk).1;omega)
 ·rw [(hlt k hk).2.1] at hr
  exact h.apart k (by have:=(hlt k hk).1;omega) r hr
 ·rw [(hlt i hi).2.1] at hr
  rw [(hlt j hj).2.1]
  exact h.diff i j (by have:=(hlt i hi).1;omega) (by have:=(hlt j hj).1;omega) hij r hr
theorem PL.cutHead {w:World} {base g off n c:Nat} {Ls:List (List (Int×Int))} {vs:List Value} (h:PL w base (.slice (some ⟨g,off,none⟩) n c) Ls vs) (hn:1 < Ls.length) :
  PL w base (.slice (some ⟨g,off+1,none⟩) (Ls.length - 1) (c - 1)) (Ls.drop 1) (vs.drop 1):=by
 have hlt:∀ k,k < (Ls.drop 1).length->k+1 < Ls.length∧(vs.drop 1).getD k undef=vs.getD (k+1) undef∧LL (Ls.drop 1) k=LL Ls (k+1):=by
  intro k hk
  rw [List.length_drop] at hk
  refine ⟨by omega,?_,?_⟩ <;> simp [LL,List.getD_eq_getElem?_getD]
 refine ⟨?_,by have:=h.len;simp;omega,fun k hk=>?_,fun k hk r hr=>?_,fun i j hi hj hij r hr=>?_⟩
 ·rcases h.row with ⟨e,_⟩ | ⟨g',off',c',e,h1,h2,h3,h4,h5,h6⟩
  ·injection e with e1;cases e1
  ·injection e with e1 e2 e3
   injection e1 with e1
   injection e1 with e1 e4 _
   subst e1 e2 e3 e4
   refine .inr ⟨g,off+1,c - 1,by rw [List.length_drop],by rw [List.length_drop];omega,by omega,h3,h4,fun k hk=>?_,fun j hj=>?_⟩
   ·rw [(hlt k hk).2.1,show off+1+k=off+(k+1) by omega];exact h5 (k+1) (hlt k hk).1
   ·rw [show off+1+j=off+(j+1) by omega];exact h6 (j+1) (by omega)
 ·rw [(hlt k hk).2.1,(hlt k hk).2.2];exact h.inner (k+1) (hlt k hk).1
 ·rw [(hlt k hk).2.1] at hr
  have:=h.apart (k+1) (hlt k hk).1 r hr
  simpa [Value.ownBlock] using this
 ·rw [(hlt i hi).2.1] at hr
  rw [(hlt j hj).2.1]
  exact h.diff (i+1) (j+1) (hlt i hi).1 (hlt j hj).1 (by omega) r hr
structure KO (w:World) (base:Nat) (vn vp:Value) (D:KV) (vs:List Value):Prop where
 now:CO w base vn D.now
 past:PL w base vp D.past vs
 apn:∀ r,vn.ownBlock=some r->vp.ownBlock≠some r
 api:∀ k,k < D.past.length->∀ r,(vs.getD k undef).ownBlock=some r->vn.ownBlock≠some r
theorem KO.below {w w':World} {base B:Nat} {vn vp:Value} {D:KV} {vs:List Value} (h:KO w base vn vp D vs) (hb:Below B w w') (hB:w.heap.size<=B):KO w' base vn vp D vs:=⟨h.now.below hb hB,h.past.below hb hB,h.apn,h.api⟩
theorem KO.mono {w:World} {base base':Nat} {vn vp:Value} {D:KV} {vs:List Value} (h:KO w base vn vp D vs) (hB:base'<=base):KO w base' vn vp D vs:=⟨h.now.mono hB,h.past.mono hB,h.apn,h.api⟩
theorem KO.zero (w:World) (base:Nat):KO w base (.slice none 0 0) (.slice none 0 0) noK []:=⟨CO.nil _ _,PL.nil _ _,fun r h=>by simp [Value.ownBlock] at h,fun k h=>by simp [noK] at h⟩
structure Ks (w:World) (B:Nat) (vn vp:Value) (D:KV):Prop where
 now:∃ A c,vn=.slice A D.now.length c∧D.now.length<=c∧Cs w B A D.now
 past:∃ A c,vp=.slice A D.past.length c∧D.past.length<=c∧Css w B A D.past
theorem Ks.below {w w':World} {B:Nat} {vn vp:Value} {D:KV} (h:Ks w B vn vp D) (hb:Below B w w'):Ks w' B vn vp D:=by
 obtain ⟨⟨A,c,e1,e2,e3⟩,A',c',e4,e5,e6⟩:=h
 exact ⟨⟨A,c,e1,e2,e3.below hb⟩,A',c',e4,e5,e6.below hb⟩
theorem Ks.more {w:World} {B B':Nat} {vn vp:Value} {D:KV} (h:Ks w B vn vp D) (hb:B<=B'):Ks w B' vn vp D:=by
 obtain ⟨⟨A,c,e1,e2,e3⟩,A',c',e4,e5,e6⟩:=h
 exact ⟨⟨A,c,e1,e2,e3.more hb⟩,A',c',e4,e5,e6.more hb⟩
theorem KO.ks {w:World} {base:Nat} {vn vp:Value} {D:KV} {vs:List Value} (h:KO w base vn vp D vs):Ks w w.heap.size vn vp D:=by
 obtain ⟨A,c,e,hc,_,hcs⟩:=h.now.form
 refine ⟨⟨A,c,e,hc,hcs⟩,?_⟩
 have hp:=h.past
 rcases hp.row with ⟨rfl,h0⟩ | ⟨g,off,c',rfl,h1,h2,h3,h4,h5,h6⟩
 ·exact ⟨none,0,by rw [h0];rfl,by rw [h0];simp,by rw [h0];exact Css.nil _ _ _⟩
 ·exact ⟨_,c',rfl,h1,hp.css.2.2⟩
end
section
attribute [local go_sem ↓] Go.wp_at_zero Go.wp_at_succ
def SmallK (D:KV):Prop:=D.now.length<=10000000∧D.past.length<=10000000∧∀ k,k < D.past.length->(LL D.past k).length<=10000000
theorem small_ok {D:KV} (h:deskOk D=true):SmallK D:=by
 obtain ⟨h1,h2,h3⟩:=deskOk_parts h
 refine ⟨by have:=cOk_len h2;omega,by omega,fun k hk=>?_⟩
 rw [LL_get hk]
 have:=cOk_len (h1 _ (List.getElem_mem hk));omega
theorem all_to {Ls:List (List (Int×Int))} (h:∀ k,k < Ls.length->cOk (LL Ls k)=true):Ls.all cOk=true:=by
 refine List.all_eq_true.2 (fun L hL=>?_)
 obtain ⟨k,hk,rfl⟩:=List.getElem_of_mem hL
 rw [<- LL_get hk];exact h k hk
theorem all_bad {Ls:List (List (Int×Int))} {k:Nat} (hk:k < Ls.length) (h:cOk (LL Ls k)=false):Ls.all cOk=false:=by
 cases e:Ls.all cOk with
 | false=>rfl
 | true =>
  have:=List.all_eq_true.1 e _ (List.getElem_mem hk)
  rw [<- LL_get hk,h] at this;cases this
theorem c_sDeskOk (D:KV) (vn vp:Value) (w:World) (hK:Ks w w.heap.size vn vp D) (hs:SmallK D) :
  Calls Tryz.prog 13 #[.agg #[vn,vp]] w fun e w'=>e=.returned (.bool (deskOk D))∧Below w.heap.size w w':=by
 obtain ⟨⟨An,cn,rfl,hcn,hN⟩,Ap,cp,rfl,hcp,hP⟩:=hK
 obtain ⟨hs1,hs2,hs3⟩:=hs
 have hb0:Below w.heap.size w (w.alloc (.cells #[.slice An D.now.length cn,.slice Ap D.past.length cp] 31)):=by (repeat (first | exact rfl | exact Below.refl _ _ | (with_reducible refine Below.drew ?_) | (with_reducible refine Below.drewN ?_ _) | (with_reducible refine Below.alloc ?_ ?_ _) | (with_reducible refine Below.setCell ?_ ?_ _) | (show _<=_;focus (first | omega | (simp;done) | (simp;omega)))))
 have bR:=heap_alloc_new w (.cells #[.slice An D.now.length cn,.slice Ap D.past.length cp] 31)
 have hz0:(w.alloc (.cells #[.slice An D.now.length cn,.slice Ap D.past.length cp] 31)).heap.size=w.heap.size+1:=by simp
 have HR:=Lib.hid (fun (w':World) (hb:Below (w.heap.size+1) (w.alloc (.cells #[.slice An D.now.length cn,.slice Ap D.past.length cp] 31)) w')=>show w'.cell? ⟨w.heap.size,0,none⟩=some (.slice An D.now.length cn)∧w'.cell? ⟨w.heap.size,1,none⟩=some (.slice Ap D.past.length cp) from
  ⟨(hb.cell (p:=⟨w.heap.size,0,none⟩) (by simp)).trans (cell_of_row _ w.heap.size 0 _ _ _ bR),(hb.cell (p:=⟨w.heap.size,1,none⟩) (by simp)).trans (cell_of_row _ w.heap.size 1 _ _ _ bR)⟩)
 have r1:=(HR.out _ (Below.refl _ _)).2
 have r0:=(HR.out _ (Below.refl _ _)).1
 obtain ⟨w0,hw0⟩:∃ w0,w.alloc (.cells #[.slice An D.now.length cn,.slice Ap D.past.length cp] 31)=w0:=⟨_,rfl⟩
 go_enter Tryz.func13,Tryz.ntmps13
 go_wp2_with fail
 rw [hw0] at hb0 hz0 HR r0 r1
 clear bR hw0
 go_loopw [3] (fun i wr=>∃ k:Nat,k<=D.past.length∧i=.int .i64 (k:Int)∧Hid (∀ j,j < k->cOk (LL D.past j)=true)∧Below (w.heap.size+1) w0 wr) (fun i _=>D.past.length - (intOf i).toNat)
 case atStart=>exact ⟨0,by omega,rfl,Lib.hid (fun j hj=>by omega),Below.refl _ _⟩
 case round =>
  obtain ⟨k,hk,rfl,HN,hb⟩:=hrel
  obtain ⟨c0,c1⟩:=HR.out _ hb
  have hsz:=hb.size
  have hbw:=hb0.trans (hb.mono (by omega))
  have p1:(0:Int)<=(k:Int):=by omega
  by_cases hlt:k < D.past.length
  ·have p2:(k:Int) < (D.past.length:Int):=by omega
   obtain ⟨b,off,rfl,hlb,hc⟩:=hP (by omega)
   obtain ⟨Ak,ck,d1,hck,hAk⟩:=hc k hlt
   have e1:=(hbw.cell (p:=⟨b,off+k,none⟩) hlb).trans d1
   have HC:=Lib.hid (c_sCustomersOk (LL D.past k) Ak ck wr ((hAk.below hbw).more (by omega)) (by have:=hs3 k hlt;omega))
   clear hc d1 hAk
   cases ho:cOk (LL D.past k) with
   | true =>
    have HO:=Lib.hid ho
    clear ho
    go_wp2_with fail
    refine HC.out.mono ?_
    rintro e w1 ⟨rfl,hb1⟩
    rw [HO.out]
    have hb2:=hb.trans (hb1.mono (by omega))
    go_wp2_with fail
    go_roundw
    case rel=>exact ⟨k+1,by omega,by go_num,Lib.hid (fun j hj=>by
     rcases Nat.lt_succ_iff_lt_or_eq.1 hj with h | rfl
     ·exact HN.out j h
     ·exact HO.out),hb2⟩
    case measure=>simp [intOf];omega
   | false =>
    have HO:=Lib.hid ho
    have HV:=Lib.hid (show deskOk D=false by rw [deskOk,all_bad hlt ho];rfl)
    clear ho
    go_wp2_with fail
    refine HC.out.mono ?_
    rintro e w1 ⟨rfl,hb1⟩
    rw [HO.out]
    go_wp2_with fail
    go_ret
    exact ⟨by rw [HV.out];rfl,hbw.trans (hb1.mono (by omega))⟩
  ·have p2:¬ (k:Int) < (D.past.length:Int):=by omega
   have hkl:k=D.past.length:=by omega
   have hv:deskOk D=(cOk D.now && decide (D.past.length<=8)):=by rw [deskOk,all_to (fun j hj=>HN.out j (by omega))];rfl
   have HC:=Lib.hid (c_sCustomersOk D.now An cn wr ((hN.below hbw).more (by omega)) (by omega))
   subst hkl
   cases ho:cOk D.now with
   | true =>
    have HO:=Lib.hid ho
    have HV:=Lib.hid (show deskOk D=decide ((D.past.length:Int)<=8) by rw [hv,ho,Bool.true_and,decide_eq_decide];omega)
    clear ho hv
    go_wp2_with fail
    refine HC.out.mono ?_
    rintro e w1 ⟨rfl,hb1⟩
    rw [HO.out]
    have c1':=(HR.out _ (hb.trans (hb1.mono (by omega)))).2
    go_wp2_with fail
    go_ret
    exact ⟨by rw [HV.out];rfl,hbw.trans (hb1.mono (by omega))⟩
   | false =>
    have HO:=Lib.hid ho
    have HV:=Lib.hid (show deskOk D=false by rw [hv,ho];rfl)
    clear ho hv
    go_wp2_with fail
    refine HC.out.mono ?_
    rintro e w1 ⟨rfl,hb1⟩
    rw [HO.out]
    go_wp2_with fail
    go_ret
    exact ⟨by rw [HV.out];rfl,hbw.trans (hb1.mono (by omega))⟩
structure KCO (w:World) (base:Nat) (vn vp:Value) (D:KV) (vs:List Value):Prop where
 now:CO w base vn D.now
 past:COO w base vp D.past vs
 apn:∀ r,vn.ownBlock=some r->vp.ownBlock≠some r
 api:∀ k,k < D.past.length->∀ r,(vs.getD k undef).ownBlock=some r->vn.ownBlock≠some r
theorem KCO.ko {w:World} {base:Nat} {vn vp:Value} {D:KV} {vs:List Value} (h:KCO w base vn vp D vs):KO w base vn vp D vs:=⟨h.now,PL.ofCOO h.past,h.apn,h.api⟩
theorem COO.base {w:World} {base:Nat} {v:Value} {xss:List (List (Int×Int))} {vs:List Value} (h:COO w base v xss vs):∀ r,v.ownBlock=some r->base<=r:=owns_base h.row
theorem LL_take {Ls:List (List (Int×Int))} {k j:Nat} (h:j < k):LL (Ls.take k) j=LL Ls j:=by simp [LL,List.getD_eq_getElem?_getD,List.getElem?_take_of_lt h]
theorem take_LL {Ls:List (List (Int×Int))} {k:Nat} (h:k < Ls.length):Ls.take (k+1)=Ls.take k++[LL Ls k]:=by rw [LL_get h,List.take_append_getElem]
theorem set2b {w:World} {R:Nat} {t:TypeId} {x y:Value} (q:Value) (h:w.heap[R]?=some (.cells #[x,y] t (0,0))):(w.setCell ⟨R,1,none⟩ q).heap[R]?=some (.cells #[x,q] t (0,0)):=by
 obtain ⟨hlt,he⟩:=Array.getElem?_eq_some_iff.1 h
 rw [Array.getElem?_eq_getElem (by simpa [World.setCell] using hlt)]
 simp [World.setCell,Array.getElem_modify,he]
theorem set2a {w:World} {R:Nat} {t:TypeId} {x y:Value} (q:Value) (h:w.heap[R]?=some (.cells #[x,y] t (0,0))):(w.setCell ⟨R,0,none⟩ q).heap[R]?=some (.cells #[q,y] t (0,0)):=by
 obtain ⟨hlt,he⟩:=Array.getElem?_eq_some_iff.1 h
 rw [Array.getElem?_eq_getElem (by simpa [World.setCell] using hlt)]
 simp [World.setCell,Array.getElem_modify,he]
theorem grown_set1 (w:World) (r o:Nat) (u:Value):w.grownBy (w.setCell ⟨r,o,none⟩ u) (some r) :=
 ⟨rfl,rfl,rfl,by simp [World.setCell],fun b _ hb=>Below.heap_setCell _ _ _ _ (fun e=>hb (by rw [e]))⟩
theorem unfrozen_of {w:World} {R i:Nat} {cs:Array Value} {t:TypeId} (h:w.heap[R]?=some (.cells cs t (0,0))):w.frozen? ⟨R,i,none⟩=false:=by simp [World.frozen?,h]
theorem c_sCopy (D:KV) (vn vp:Value) (w:World) (hK:Ks w w.heap.size vn vp D) (hs:SmallK D) :
  Calls Tryz.prog 63 #[.agg #[vn,vp]] w fun e w'=>∃ vn' vp' vs,e=.returned (.agg #[vn',vp'])∧KCO w' w.heap.size vn' vp' D vs∧Below w.heap.size w w':=by
 obtain ⟨⟨An,cn,rfl,hcn,hN⟩,Ap,cp,rfl,hcp,hP⟩:=hK
 obtain ⟨hs1,hs2,hs3⟩:=hs
 obtain ⟨w0,hw0⟩:∃ w0,((w.alloc (.cells #[.slice An D.now.length cn,.slice Ap D.past.length cp] 31)).alloc (.cells #[.slice none 0 0,.slice none 0 0] 31)).alloc (.cells #[] 100)=w0:=⟨_,rfl⟩
 have hz0:w0.heap.size=w.heap.size+3:=by rw [<- hw0];simp
 have hb0:Below w.heap.size w w0:=by
  rw [<- hw0]
  exact (((Below.refl _ w).alloc (Nat.le_refl _) _).alloc (by simp) _).alloc (by simp;omega) _
 have bR:w0.heap[w.heap.size]?=some (.cells #[.slice An D.now.length cn,.slice Ap D.past.length cp] 31 (0,0)):=by
  rw [<- hw0]
  exact (Below.heap_alloc _ _ _ (by simp;omega)).trans ((Below.heap_alloc _ _ _ (by simp)).trans (heap_alloc_new _ _))
 have bR2:w0.heap[w.heap.size+1]?=some (.cells #[.slice none 0 0,.slice none 0 0] 31 (0,0)):=by
  rw [<- hw0]
  have:=heap_alloc_new (w.alloc (.cells #[.slice An D.now.length cn,.slice Ap D.past.length cp] 31)) (.cells #[.slice none 0 0,.slice none 0 0] 31)
  rw [World.size_alloc] at this
  exact (Below.heap_alloc _ _ _ (by simp)).trans this
 have own0:CO w0 (w.heap.size+2) (.slice (some ⟨w.heap.size+1+1,0,none⟩) 0 0) []:=by
  have:=CO.empty ((w.alloc (.cells #[.slice An D.now.length cn,.slice Ap D.past.length cp] 31)).alloc (.cells #[.slice none 0 0,.slice none 0 0] 31)) (base:=w.heap.size+2) (by simp)
  rw [hw0,World.size_alloc,World.size_alloc] at this
  exact this
 have c0:=cell_of_row _ w.heap.size 0 _ _ _ bR
 have c1:=cell_of_row _ w.heap.size 1 _ _ _ bR
 have hN0:=hN.below hb0
 go_enter Tryz.func63,Tryz.ntmps63
 go_wp2_with (refine app_KC ?_ (.tmp 5) (.tmp 7) ?_ (w.heap.size+2) (.slice (some ⟨w.heap.size+1+1,0,none⟩) 0 0) [] D.now An cn w.heap.size D.now.length D.now.length ?_ ?_ ?_ ?_ ?_ ?_ ?_ ?_ ?_;rfl;rfl;rfl;exact own0;rfl;rfl;(simp);exact hN0;omega;omega;intro G2 c2 w2 o2 hgr2 hb2)
 rw [List.nil_append] at o2
 have hz2:=hb2.size
 have hnl:=owns_lt o2
 have hnb:=owns_base o2
 have bR3:=heap_alloc_new w2 (.cells #[.slice G2 D.now.length c2,.slice none 0 0] 31)
 have hbx:Below (w.heap.size+2) w0 (w2.alloc (.cells #[.slice G2 D.now.length c2,.slice none 0 0] 31)):=hb2.alloc (by omega) _
 have hb23:Below w2.heap.size w2 (w2.alloc (.cells #[.slice G2 D.now.length c2,.slice none 0 0] 31)):=(Below.refl _ w2).alloc (Nat.le_refl _) _
 have hz3:w2.heap.size < (w2.alloc (.cells #[.slice G2 D.now.length c2,.slice none 0 0] 31)).heap.size:=by simp
 have HP:=Lib.hid hP
 have HS:=Lib.hid hs3
 clear hw0 own0 hgr2 hN0 hP hN hs3 c0 c1
 go_loopw [4] (fun i wr=>∃ (k:Nat) (vp:Value) (vs:List Value),k<=D.past.length∧i=.int .i64 (k:Int)∧Below w2.heap.size w2 wr∧wr.heap[w2.heap.size]?=some (.cells #[.slice G2 D.now.length c2,vp] 31 (0,0))∧COO wr (w2.heap.size+1) vp (D.past.take k) vs∧w2.heap.size < wr.heap.size) (fun i _=>D.past.length - (intOf i).toNat)
 case atStart=>exact ⟨0,_,_,by omega,rfl,hb23,bR3,COO.nil _ _,hz3⟩
 case round =>
  clear hbx hb23 bR3 hz3
  obtain ⟨k,vp,vs,hk,rfl,hb,bO,hown,hsz⟩:=hrel
  have hbw:Below (w.heap.size+2) w0 wr:=hb2.trans (hb.mono (by omega))
  have b1:=(hbw.block w.heap.size (by omega)).trans bR
  have b2:=(hbw.block (w.heap.size+1) (by omega)).trans bR2
  have c1:=cell_of_row _ w.heap.size 1 _ _ _ b1
  have d0:=cell_of_row _ w2.heap.size 0 _ _ _ bO
  have d1:=cell_of_row _ w2.heap.size 1 _ _ _ bO
  have p1:(0:Int)<=(k:Int):=by omega
  by_cases hlt:k < D.past.length
  ·have p2:(k:Int) < (D.past.length:Int):=by omega
   obtain ⟨b,off,rfl,hlb,hc⟩:=HP.out (by omega)
   obtain ⟨Ak,ck,q1,hck,hAk⟩:=hc k hlt
   have hbww:Below w.heap.size w wr:=hb0.trans (hbw.mono (by omega))
   have e1:=(hbww.cell (p:=⟨b,off+k,none⟩) hlb).trans q1
   have hAr:=hAk.below hbww
   have hkl:=HS.out k hlt
   obtain ⟨Av,cv,rfl,hcv,-,-⟩:=hown.form
   have hkt:(D.past.take k).length=k:=by rw [List.length_take];omega
   rw [hkt] at d0 d1 bO hown hcv
   clear hc q1 hAk b1
   have HB:=Lib.hid (fun (w':World) (hb':Below wr.heap.size wr w')=>show w'.cell? ⟨w.heap.size,1,none⟩=some (.slice (some ⟨b,off,none⟩) D.past.length cp)∧w'.cell? ⟨b,off+k,none⟩=some (.slice Ak (LL D.past k).length ck)∧w'.cell? ⟨w2.heap.size,1,none⟩=some (.slice Av k cv)∧w'.frozen? ⟨w2.heap.size,1,none⟩=false from
    ⟨(hb'.cell (p:=⟨w.heap.size,1,none⟩) (show w.heap.size < wr.heap.size by omega)).trans c1,(hb'.cell (p:=⟨b,off+k,none⟩) (show b < wr.heap.size by omega)).trans e1,(hb'.cell (p:=⟨w2.heap.size,1,none⟩) hsz).trans d1,(hb'.frozen (p:=⟨w2.heap.size,1,none⟩) hsz).trans (unfrozen_of bO)⟩)
   have q3:Below wr.heap.size wr (wr.alloc (.cells #[] 100)):=(Below.refl wr.heap.size wr).alloc (Nat.le_refl _) _
   obtain ⟨g1,g2,g3,g4⟩:=HB.out _ q3
   clear b2
   go_wp2_with fail
   go_region_law (first
     | (refine step_KC (by rfl) (.tmp 19) (.tmp 24) (by rfl) wr.heap.size (.slice (some ⟨wr.heap.size,0,none⟩) 0 0) [] (LL D.past k) Ak ck w.heap.size (LL D.past k).length (LL D.past k).length (by rfl) (CO.empty wr.drew (Nat.le_refl _)) (by rfl) (by rfl) (by simp) (hAr.below (q3.drew.mono (by omega))) (by omega) (by simp) ?_;intro G6 c6 w6 o6 hgr6 hb6;have hx6:Below wr.heap.size wr w6:=q3.drew.trans hb6;obtain ⟨-,-,g5,g6⟩:=HB.out _ hx6;have g7:=(HB.out _ (hx6.alloc hx6.size (.cells #[.slice G6 (LL D.past k).length c6] 28))).2.2.1;rw [List.nil_append] at o6)
     | (refine step_CO (by rfl) (.tmp 18) (.tmp 26) (by rfl) (w2.heap.size+1) (.slice Av k cv) (D.past.take k) vs wr (.slice G6 (LL D.past k).length c6) (LL D.past k) w6.heap.size (by rfl) hown (hx6.alloc hx6.size _) ((o6.mono (by omega)).alloc _) (owns_base o6) (by rfl) (by rfl) (heap_alloc_new _ _) (by omega) (by have:=hx6.size;simp;omega) ?_;intro g8 c8 w8 o8 hgr8 hor8 hb8;rw [hkt] at o8 ⊢;have hx8:Below (w2.heap.size+1) wr w8:=((hx6.alloc hx6.size _).mono (by omega)).trans hb8;have bO8:=(hx8.block w2.heap.size (by omega)).trans bO;have h81:=cell_of_row _ w2.heap.size 1 _ _ _ bO8;have h8f:w8.frozen? ⟨w2.heap.size,1,none⟩=false:=unfrozen_of bO8))
   all_goals
    have b9:=set2b (.slice (some ⟨g8,0,none⟩) (k+1) c8) bO8
    have o9:=o8.keptLow (grown_set1 w8 w2.heap.size 1 (.slice (some ⟨g8,0,none⟩) (k+1) c8)) (by omega)
    have hx9:Below w2.heap.size w2 (w8.setCell ⟨w2.heap.size,1,none⟩ (.slice (some ⟨g8,0,none⟩) (k+1) c8)):=(hb.trans (hx8.mono (by omega))).setCell (p:=⟨w2.heap.size,1,none⟩) (Nat.le_refl _) _
    have hz9:w2.heap.size < (w8.setCell ⟨w2.heap.size,1,none⟩ (.slice (some ⟨g8,0,none⟩) (k+1) c8)).heap.size:=(Array.getElem?_eq_some_iff.1 b9).1
    rw [<- take_LL hlt] at o9
    clear g1 g2 g3 g4 g5 g6 g7 h81 h8f
    go_wp2_with fail
    go_roundw
    case rel=>exact ⟨k+1,_,_,by omega,by go_num,hx9,b9,o9,hz9⟩
    case measure=>simp [intOf];omega
  ·have p2:¬ (k:Int) < (D.past.length:Int):=by omega
   have hkl:D.past.take k=D.past:=List.take_of_length_le (by omega)
   rw [hkl] at hown
   have r0:=cell_of_row _ (w.heap.size+1) 0 _ _ _ b2
   have r1:=cell_of_row _ (w.heap.size+1) 1 _ _ _ b2
   have f0:wr.frozen? ⟨w.heap.size+1,0,none⟩=false:=unfrozen_of b2
   have f1:wr.frozen? ⟨w.heap.size+1,1,none⟩=false:=unfrozen_of b2
   obtain ⟨Av,cv,rfl,hcv,-,-⟩:=hown.form
   have b7:=set2b (.slice Av D.past.length cv) (set2a (.slice G2 D.now.length c2) b2)
   have HB7:=Lib.hid b7
   have HV:=Lib.hid (show KCO ((wr.setCell ⟨w.heap.size+1,0,none⟩ (.slice G2 D.now.length c2)).setCell ⟨w.heap.size+1,1,none⟩ (.slice Av D.past.length cv)) w.heap.size (.slice G2 D.now.length c2) (.slice Av D.past.length cv) D vs from by
    have hg:=(grown_set1 wr (w.heap.size+1) 0 (.slice G2 D.now.length c2)).trans (grown_set1 _ (w.heap.size+1) 1 (.slice Av D.past.length cv))
    have on:CO wr (w.heap.size+2) (.slice G2 D.now.length c2) D.now:=o2.below hb (Nat.le_refl _)
    refine ⟨(on.grownR' hg (fun r hr e=>by cases e;have:=hnb _ hr;omega)).mono (by omega),(hown.keptLow hg (by omega)).mono (by omega),fun r hr e=>?_,fun j hj r hr e=>?_⟩
    ·have:=hnl r hr
     have:=owns_base hown.row r e
     omega
    ·have:=hnl r e
     have:=owns_base (hown.inner j hj) r hr
     omega)
   have HW:=Lib.hid (show Below w.heap.size w ((wr.setCell ⟨w.heap.size+1,0,none⟩ (.slice G2 D.now.length c2)).setCell ⟨w.heap.size+1,1,none⟩ (.slice Av D.past.length cv)) from
    ((hb0.trans (hbw.mono (by omega))).setCell (p:=⟨w.heap.size+1,0,none⟩) (by simp) _).setCell (p:=⟨w.heap.size+1,1,none⟩) (by simp) _)
   clear b7 b1 b2 hown hkl
   go_wp2_with fail
   have b7:=HB7.out
   have k0:=cell_of_row _ (w.heap.size+1) 0 _ _ _ b7
   have k1:=cell_of_row _ (w.heap.size+1) 1 _ _ _ b7
   refine bodyPost_ret (v:=.agg #[.slice G2 D.now.length c2,.slice Av D.past.length cv]) (by simp [results,Tryz.f63,go_sem,k0,k1]) rfl ?_
   exact ⟨_,_,rfl,⟨_,HV.out⟩,HW.out⟩
end
section
attribute [local go_sem ↓] Go.wp_at_zero Go.wp_at_succ
theorem made_0 (L:List (Int×Int)) (a b:Int):madeV L ⟨0,a,b⟩=(L++[(a,b)],cOk (L++[(a,b)])):=by rw [madeV,if_pos rfl]
theorem made_go {L:List (Int×Int)} (h:0 < L.length):madeV L ⟨1,0,0⟩=(L.take (L.length - 1),true):=by rw [madeV,if_neg (by simp),if_pos ⟨rfl,h⟩]
theorem made_2 (L:List (Int×Int)) (a:Int):madeV L ⟨2,a,0⟩=(moreR L a,moreOk L a):=by rw [madeV,if_neg (by simp),if_neg (by simp),if_pos ⟨rfl,rfl⟩]
theorem made_3 {L:List (Int×Int)} {a:Int} (ha:0 < a) (h:0 < L.length):madeV L ⟨3,a,0⟩=(laterR L a,laterOk L a):=by rw [madeV,if_neg (by simp),if_neg (by simp),if_neg (by simp),if_pos ⟨rfl,rfl,ha,h⟩]
theorem made_no {L:List (Int×Int)} {k a b:Int} (h0:k≠0) (h1:¬ ((k=1∧a=0∧b=0)∧0 < L.length)) (h2:¬ (k=2∧b=0)) (h3:¬ (k=3∧b=0∧0 < a∧0 < L.length)):madeV L ⟨k,a,b⟩=(L,false):=by
 rw [madeV,if_neg h0,if_neg (by simpa using h1),if_neg h2,if_neg h3]
theorem heap_newK (w:World) (o p:Obj):((w.alloc o).alloc p).heap[w.heap.size+1]?=some p:=by
 have h:=heap_alloc_new (w.alloc o) p
 rwa [show (w.alloc o).heap.size=w.heap.size+1 by simp] at h
def MadeP (L:List (Int×Int)) (d:DV) (w:World) (e:Ending) (w':World):Prop :=
 ∃ v,e=.returned (.tuple #[v,.bool (madeV L d).2])∧((madeV L d).2=true->CO w' w.heap.size v (madeV L d).1)∧Below w.heap.size w w'
theorem c_sMadeCome (L:List (Int×Int)) (A:Option Addr) (c:Nat) (a b:Int) (w:World) (hA:Cs w w.heap.size A L) (hok:cOk L=true) :
  Calls Tryz.prog 117 #[.slice A L.length c,.agg #[.int .i64 0,.int .i64 a,.int .i64 b]] w (MadeP L ⟨0,a,b⟩ w):=by
 have hlen:=cOk_len hok
 have HM:=Lib.hid (made_0 L a b)
 have c0:=World.cell?_alloc_mark w #[.int .i64 0,.int .i64 a,.int .i64 b] 39 (0,0) 0
 have c1:=World.cell?_alloc_mark w #[.int .i64 0,.int .i64 a,.int .i64 b] 39 (0,0) 1
 have c2:=World.cell?_alloc_mark w #[.int .i64 0,.int .i64 a,.int .i64 b] 39 (0,0) 2
 obtain ⟨w1,hw1⟩:∃ w1,w.alloc (.cells #[.int .i64 0,.int .i64 a,.int .i64 b] 39)=w1:=⟨_,rfl⟩
 have hb1:Below w.heap.size w w1:=by rw [<- hw1];exact (Below.refl _ w).alloc (Nat.le_refl _) _
 have hz1:w.heap.size < w1.heap.size:=by rw [<- hw1];simp
 rw [hw1] at c0 c1 c2
 have HR:=Lib.hid (fun (w':World) (hb:Below w1.heap.size w1 w')=>show w'.cell? ⟨w.heap.size,1,none⟩=some (.int .i64 a)∧w'.cell? ⟨w.heap.size,2,none⟩=some (.int .i64 b) from ⟨(hb.cell (p:=⟨w.heap.size,1,none⟩) hz1).trans c1,(hb.cell (p:=⟨w.heap.size,2,none⟩) hz1).trans c2⟩)
 have hA1:=hA.below hb1
 clear hok
 go_enter Tryz.func117,Tryz.ntmps117
 go_wp2_with fail
 clear hw1
 have hd0:Below w1.heap.size w1 w1.drew:=(Below.refl _ w1).drew
 refine Code.wp_mono (Q:=fun e a' W=>e=.normal∧∃ (t11 t13 t19:Value) (g cc:Nat) ,a'={ tmps:=#[.slice A L.length c,.agg #[.int .i64 0,.int .i64 a,.int .i64 b],undef,.pointer (some ⟨w.heap.size,0,none⟩),.slice none 0 0,.bool false,.slice (some ⟨g,0,none⟩) (L.length+1) cc,.bool true,.pointer (some ⟨w.heap.size,0,none⟩),.int .i64 0,.bool true,t11,.slice A L.length c,t13,.pointer (some ⟨w.heap.size,1,none⟩),.int .i64 a,.pointer (some ⟨w.heap.size,2,none⟩),.int .i64 b,.agg #[.int .i64 a,.int .i64 b],t19,.slice (some ⟨g,0,none⟩) (L.length+1) cc,undef,undef,undef,undef,undef,undef,undef,undef,undef,undef,undef,undef,undef,undef,undef,undef,undef,undef,undef,undef,undef,undef,undef,undef,undef,undef,undef,undef,undef,undef,undef,undef,undef,undef,undef,undef,undef,undef,undef,undef,undef,undef,undef,undef,undef,undef,undef,undef,undef,undef,undef,undef,undef,undef,undef,undef,undef,undef,undef,undef],defers:=[] } ∧
  CO W w1.heap.size (.slice (some ⟨g,0,none⟩) (L.length+1) cc) (L++[(a,b)])∧Below w1.heap.size w1 W) ?imp ?reg
 case reg =>
  go_region_held3 (fun w'=>w'.cell? ⟨w.heap.size,1,none⟩=some (.int .i64 a)∧w'.cell? ⟨w.heap.size,2,none⟩=some (.int .i64 b))
   (first
     | go_keep
     | exact HR.out _ (hd0.alloc (Nat.le_refl _) _)
     | exact HR.out _ ((hd0.alloc (Nat.le_refl _) _).alloc (by simp) _)
     | exact HR.out _ hx6
     | exact HR.out _ (hx6.alloc hx6.size _)
     | exact HR.out _ hx7)
   (first
     | (refine step_KC (by rfl) (.tmp 11) (.tmp 12) (by rfl) w1.heap.size (.slice (some ⟨w1.heap.size,0,none⟩) 0 0) [] L A c w.heap.size L.length L.length (by rfl) (by first | exact CO.empty w1.drew (Nat.le_refl _) | exact (CO.empty w1.drew (Nat.le_refl _)).alloc _) (by rfl) (by rfl) (by simp) (hA1.below (by first | exact ((hd0.alloc (Nat.le_refl _) _).mono (by omega)) | exact (((hd0.alloc (Nat.le_refl _) _).alloc (by simp) _).mono (by omega)))) (by omega) (by first | (simp;done) | (simp;omega)) ?_;intro G6 c6 w6 o6 hgr6 hb6;rw [List.nil_append] at o6;have hgr6:World.grownBy _ w6 (some (w1.heap.size)):=hgr6;have hx6:Below w1.heap.size w1 w6:=(by first | exact (hd0.alloc (Nat.le_refl _) _).trans hb6 | exact ((hd0.alloc (Nat.le_refl _) _).alloc (by simp) _).trans hb6))
     | (refine step_KC (by rfl) (.tmp 11) (.tmp 12) (by rfl) w1.heap.size (.slice (some ⟨w1.heap.size+1,0,none⟩) 0 0) [] L A c w.heap.size L.length L.length (by rfl) (by have K:=CO.empty (w1.drew.alloc (.cells #[.int .i64 a,.int .i64 b] 100)) (base:=w1.heap.size) (by simp);rw [World.size_alloc] at K;exact K) (by rfl) (by rfl) (by simp) (hA1.below (by first | exact ((hd0.alloc (Nat.le_refl _) _).mono (by omega)) | exact (((hd0.alloc (Nat.le_refl _) _).alloc (by simp) _).mono (by omega)))) (by omega) (by first | (simp;done) | (simp;omega)) ?_;intro G6 c6 w6 o6 hgr6 hb6;rw [List.nil_append] at o6;have hgr6:World.grownBy _ w6 (some (w1.heap.size+1)):=hgr6;have hx6:Below w1.heap.size w1 w6:=(by first | exact (hd0.alloc (Nat.le_refl _) _).trans hb6 | exact ((hd0.alloc (Nat.le_refl _) _).alloc (by simp) _).trans hb6))
     | (refine step_C (by rfl) (.tmp 13) (.tmp 19) (by rfl) w1.heap.size (.slice G6 L.length c6) L a b w6.heap.size (by rfl) (o6.alloc _) (by rfl) (heap_alloc_new _ _) (by omega) (by have:=hx6.size;simp;omega) ?_;intro g7 c7 w7 o7 hgr7 hb7;have hx7:Below w1.heap.size w1 w7:=(hx6.alloc hx6.size _).trans hb7)
     | (refine step_C (by rfl) (.tmp 13) (.tmp 19) (by rfl) w1.heap.size (.slice G6 L.length c6) L a b (w1.heap.size+1) (by rfl) o6 (by rfl) ((hgr6.block (w1.heap.size+1) (by simp) (by simp)).trans (heap_newK w1 _ _)) (by omega) hx6.size ?_;intro g7 c7 w7 o7 hgr7 hb7;have hx7:Below w1.heap.size w1 w7:=hx6.trans hb7)
     | (refine step_C (by rfl) (.tmp 13) (.tmp 19) (by rfl) w1.heap.size (.slice G6 L.length c6) L a b w1.heap.size (by rfl) o6 (by rfl) ((hgr6.block w1.heap.size (by simp;omega) (by simp)).trans ((Below.heap_alloc _ _ _ (by simp)).trans (heap_alloc_new w1 _))) (by omega) hx6.size ?_;intro g7 c7 w7 o7 hgr7 hb7;have hx7:Below w1.heap.size w1 w7:=hx6.trans hb7))
  all_goals exact ⟨rfl,_,_,_,_,_,rfl,o7,hx7⟩
 case imp =>
  rintro e a' W2 ⟨rfl,t11,t13,t19,g,cc,rfl,o2,hx2⟩
  have hsz:=hx2.size
  have hbw:Below w.heap.size w W2:=hb1.trans (hx2.mono (by omega))
  have hcs:=o2.isOf.2
  have HC:=Lib.hid (show Calls Tryz.prog 49 #[.slice (some ⟨g,0,none⟩) (L.length+1) cc] W2 fun e w'=>e=.returned (.bool (cOk (L++[(a,b)])))∧Below W2.heap.size W2 w' from by
   have K:=c_sCustomersOk (L++[(a,b)]) (some ⟨g,0,none⟩) cc W2 hcs (by simp;omega)
   rw [List.length_append,List.length_singleton] at K
   exact K)
  clear HR c0 c1 c2 hcs
  go_wp2_with fail
  refine HC.out.mono ?_
  rintro e w3 ⟨rfl,hb3⟩
  go_wp2_with fail
  go_ret2
  refine ⟨_,by rw [HM.out];rfl,fun _=>?_,hbw.trans (hb3.mono (by omega))⟩
  rw [HM.out]
  exact (o2.below hb3 (Nat.le_refl _)).mono (by omega)
theorem c_sMade (L:List (Int×Int)) (A:Option Addr) (c:Nat) (k a b:Int) (w:World) (hA:Cs w w.heap.size A L) (hcap:L.length<=c) (hok:cOk L=true) :
  Calls Tryz.prog 117 #[.slice A L.length c,.agg #[.int .i64 k,.int .i64 a,.int .i64 b]] w (MadeP L ⟨k,a,b⟩ w):=by
 by_cases k0:k=0
 ·subst k0;exact c_sMadeCome L A c a b w hA hok
 have e0:(k == 0)=false:=beq_eq_false_iff_ne.2 k0
 have hlen:=cOk_len hok
 have c0:=World.cell?_alloc_mark w #[.int .i64 k,.int .i64 a,.int .i64 b] 39 (0,0) 0
 have c1:=World.cell?_alloc_mark w #[.int .i64 k,.int .i64 a,.int .i64 b] 39 (0,0) 1
 have c2:=World.cell?_alloc_mark w #[.int .i64 k,.int .i64 a,.int .i64 b] 39 (0,0) 2
 obtain ⟨w1,hw1⟩:∃ w1,w.alloc (.cells #[.int .i64 k,.int .i64 a,.int .i64 b] 39)=w1:=⟨_,rfl⟩
 have hb1:Below w.heap.size w w1:=by rw [<- hw1];exact (Below.refl _ w).alloc (Nat.le_refl _) _
 have hz1:w.heap.size < w1.heap.size:=by rw [<- hw1];simp
 rw [hw1] at c0 c1 c2
 have hA1:=hA.below hb1
 by_cases hgo:k=1∧a=0∧b=0
 ·obtain ⟨rfl,rfl,rfl⟩:=hgo
  by_cases hp:0 < L.length
  ·have HM:=Lib.hid (made_go hp)
   have p1:(0:Int) < (L.length:Int):=by omega
   have p2:(1:Int)<=(L.length:Int):=by omega
   have p3:(0:Int)<=(L.length:Int) - 1:=by omega
   have p4:((L.length:Int) - 1).toNat=L.length - 1:=by omega
   have p5:(L.length:Int) - 1<=(c:Int):=by omega
   have q1:IntKind.i64.wrap ((L.length:Int) - 1)=(L.length:Int) - 1:=IntWalk.i64_in _ (by omega)
   have q3:Below w1.heap.size w1 (w1.alloc (.cells #[] 100)):=(Below.refl _ w1).alloc (Nat.le_refl _) _
   have hz3:w1.heap.size < (w1.alloc (.cells #[] 100)).heap.size:=by simp
   have hN2:=(hA1.below (q3.mono (by omega))).take (L.length - 1)
   have htl:(L.take (L.length - 1)).length=L.length - 1:=by rw [List.length_take];omega
   clear hok
   go_enter Tryz.func117,Tryz.ntmps117
   go_wp2_with (refine app_KC ?_ (.tmp 33) (.tmp 38) ?_ w1.heap.size (.slice (some ⟨w1.heap.size,0,none⟩) 0 0) [] (L.take (L.length - 1)) A c w.heap.size (L.length - 1) (L.length - 1) ?_ ?_ ?_ ?_ ?_ ?_ ?_ ?_ ?_;rfl;rfl;rfl;exact (CO.empty w1 (Nat.le_refl _));rfl;exact htl;(simp);exact hN2;omega;exact (Nat.le_of_lt hz3);intro G2 c2' w2 o2 hgr2 hb2)
   go_ret2
   rw [List.nil_append] at o2
   exact ⟨_,by rw [HM.out];rfl,fun _=>by rw [HM.out];exact o2.mono (Nat.le_of_lt hz1),hb1.trans ((q3.trans hb2).mono (Nat.le_of_lt hz1))⟩
  ·have HM:=Lib.hid (made_no (L:=L) (k:=1) (a:=0) (b:=0) (by omega) (fun h=>hp h.2) (by omega) (by omega))
   have p1:¬ (0:Int) < (L.length:Int):=by omega
   clear hp
   clear hok
   go_enter Tryz.func117,Tryz.ntmps117
   go_wp2_with fail
   go_ret2
   refine ⟨_,by rw [HM.out];rfl,?_,hb1⟩
   intro h
   rw [HM.out] at h;cases h
 ·by_cases k2:k=2
  ·subst k2
   by_cases hb:b=0
   ·subst hb
    have HM:=Lib.hid (made_2 L a)
    clear hgo
    have HC:=Lib.hid (c_sNeedingMore L A c a w1 ((hA1).more (Nat.le_of_lt hz1)) (by omega))
    clear hok
    go_enter Tryz.func117,Tryz.ntmps117
    go_wp2_with fail
    refine HC.out.mono ?_
    rintro e w2 ⟨v,rfl,o2,hb2⟩
    simp only [laterV]
    go_wp2_with fail
    go_ret2
    exact ⟨_,by rw [HM.out];rfl,fun _=>by rw [HM.out];exact o2.mono (Nat.le_of_lt hz1),hb1.trans (hb2.mono (Nat.le_of_lt hz1))⟩
   ·have eb:(b == 0)=false:=beq_eq_false_iff_ne.2 hb
    have HM:=Lib.hid (made_no (L:=L) (k:=2) (a:=a) (b:=b) (by omega) (fun h=>hgo h.1) (by omega) (by omega))
    clear hgo
    clear hok
    go_enter Tryz.func117,Tryz.ntmps117
    go_wp2_with fail
    go_ret2
    refine ⟨_,by rw [HM.out];rfl,?_,hb1⟩
    intro h
    rw [HM.out] at h;cases h
  ·have e2:(k == 2)=false:=beq_eq_false_iff_ne.2 k2
   by_cases k3:k=3
   ·subst k3
    by_cases hb:b=0
    ·subst hb
     by_cases ha:0 < a
     ·by_cases hp:0 < L.length
      ·have HM:=Lib.hid (made_3 ha hp)
       have p1:(0:Int) < (L.length:Int):=by omega
       clear hgo
       have HC:=Lib.hid (c_sLaterBy L A c a w1 ((hA1).more (Nat.le_of_lt hz1)) (by omega))
       clear hok
       go_enter Tryz.func117,Tryz.ntmps117
       go_wp2_with fail
       refine HC.out.mono ?_
       rintro e w2 ⟨v,rfl,o2,hb2⟩
       simp only [laterV]
       go_wp2_with fail
       go_ret2
       exact ⟨_,by rw [HM.out];rfl,fun _=>by rw [HM.out];exact o2.mono (Nat.le_of_lt hz1),hb1.trans (hb2.mono (Nat.le_of_lt hz1))⟩
      ·have HM:=Lib.hid (made_no (L:=L) (k:=3) (a:=a) (b:=0) (by omega) (fun h=>hgo h.1) (by omega) (by omega))
       have p1:¬ (0:Int) < (L.length:Int):=by omega
       clear hgo
       clear hok
       go_enter Tryz.func117,Tryz.ntmps117
       go_wp2_with fail
       go_ret2
       refine ⟨_,by rw [HM.out];rfl,?_,hb1⟩
       intro h
       rw [HM.out] at h;cases h
     ·have HM:=Lib.hid (made_no (L:=L) (k:=3) (a:=a) (b:=0) (by omega) (fun h=>hgo h.1) (by omega) (by omega))
      clear hgo
      clear hok
      go_enter Tryz.func117,Tryz.ntmps117
      go_wp2_with fail
      go_ret2
      refine ⟨_,by rw [HM.out];rfl,?_,hb1⟩
      intro h
      rw [HM.out] at h;cases h
    ·have eb:(b == 0)=false:=beq_eq_false_iff_ne.2 hb
     have HM:=Lib.hid (made_no (L:=L) (k:=3) (a:=a) (b:=b) (by omega) (fun h=>hgo h.1) (by omega) (by omega))
     clear hgo
     clear hok
     go_enter Tryz.func117,Tryz.ntmps117
     go_wp2_with fail
     go_ret2
     refine ⟨_,by rw [HM.out];rfl,?_,hb1⟩
     intro h
     rw [HM.out] at h;cases h
   ·have e3:(k == 3)=false:=beq_eq_false_iff_ne.2 k3
    have HM:=Lib.hid (made_no (L:=L) (k:=k) (a:=a) (b:=b) k0 (fun h=>hgo h.1) (by omega) (by omega))
    clear hok
    go_enter Tryz.func117,Tryz.ntmps117
    go_wp2_with fail
    all_goals
     go_ret2
     refine ⟨_,by rw [HM.out];rfl,?_,hb1⟩
     intro h
     rw [HM.out] at h;cases h
end
end Go.Proofs.YthpccmkagikhjaaGreatDoor

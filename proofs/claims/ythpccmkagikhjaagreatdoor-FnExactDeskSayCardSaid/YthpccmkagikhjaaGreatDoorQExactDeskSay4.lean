import Derived.Test.YthpccmkagikhjaaGreatDoorQExactDeskSay1
import Derived.Test.YthpccmkagikhjaaGreatDoorQExactDeskSay3
import Derived.ArgAppend
import Derived.Test.YthpccmkagikhjaaGreatDoorProg
import Derived.Deep.RegionLaw
import Derived.WalkKit
import Derived.WalkSpells
import Derived.BigQuiet
import Derived.Deep.QuietTactic
import Derived.Lib.Hide
namespace Go.Proofs.YthpccmkagikhjaaGreatDoor
set_option linter.unusedVariables false
open Go.RowKit
set_option maxRecDepth 8000
set_option maxHeartbeats 8000000
section
theorem getD_snoc {vs:List Value} {x:Value} {k n:Nat} (hn:vs.length=n) (hk:k < n+1):(vs++[x]).getD k undef=if k=n then x else vs.getD k undef:=by
 by_cases e:k=n
 ·subst e;subst hn;simp [List.getD_eq_getElem?_getD]
 ·rw [if_neg e,List.getD_eq_getElem?_getD,List.getD_eq_getElem?_getD,List.getElem?_append_left (by omega)]
theorem LL_snoc {Ls:List (List (Int×Int))} {ys:List (Int×Int)} {k n:Nat} (hn:Ls.length=n) (hk:k < n+1):LL (Ls++[ys]) k=if k=n then ys else LL Ls k:=by
 unfold LL
 by_cases e:k=n
 ·subst e;subst hn;simp [List.getD_eq_getElem?_getD]
 ·rw [if_neg e,List.getD_eq_getElem?_getD,List.getD_eq_getElem?_getD,List.getElem?_append_left (by omega)]
theorem PL.grow {w0 w w':World} {base:Nat} {v v' sl:Value} {Ls:List (List (Int×Int))} {ys:List (Int×Int)} {vs:List Value} (h:PL w0 base v Ls vs) (hW:Below w0.heap.size w0 w) (hin:CO w base sl ys) (hsl:∀ r,sl.ownBlock=some r->w0.heap.size<=r)
  (hrow:(v'=.slice none 0 0∧Ls++[ys]=[])∨∃ g off c,v'=.slice (some ⟨g,off,none⟩) (Ls++[ys]).length c∧(Ls++[ys]).length<=c∧c<=maxLen∧base<=g∧g < w'.heap.size ∧
    (∀ k,k < (Ls++[ys]).length->w'.cell? ⟨g,off+k,none⟩=some ((vs++[sl]).getD k undef))∧∀ j,j < c->(w'.cell? ⟨g,off+j,none⟩).isSome=true∧w'.frozen? ⟨g,off+j,none⟩=false)
  (hg:w.grownBy w' v.ownBlock) (hv:v'.ownBlock=v.ownBlock∨∀ r,v'.ownBlock=some r->w.heap.size<=r):PL w' base v' (Ls++[ys]) (vs++[sl]):=by
 have hl:=h.len
 have hlt:∀ k,k < Ls.length->∀ r,(vs.getD k undef).ownBlock=some r->r < w0.heap.size:=fun k hk r hr=>owns_lt (h.inner k hk) r hr
 have hvl:∀ r,v.ownBlock=some r->r < w0.heap.size:=fun r hr=>(h.base_lt r hr).2
 have hsz:=hW.size
 have hsll:∀ r,sl.ownBlock=some r->r < w.heap.size:=fun r hr=>owns_lt hin r hr
 have hlen:(Ls++[ys]).length=Ls.length+1:=by simp
 refine ⟨hrow,by simp [hl],fun k hk=>?_,fun k hk r hr=>?_,fun i j hi hj hij r hr=>?_⟩
 ·rw [hlen] at hk
  rw [getD_snoc hl hk,LL_snoc rfl hk]
  by_cases e:k=Ls.length
  ·rw [if_pos e,if_pos e]
   exact hin.grownR' hg (fun r hr e2=>by have:=hvl r e2;have:=hsl r hr;omega)
  ·rw [if_neg e,if_neg e]
   exact ((h.inner k (by omega)).below hW (Nat.le_refl _)).grownR' hg (fun r hr e2=>h.apart k (by omega) r hr e2)
 ·rw [hlen] at hk
  rw [getD_snoc hl hk] at hr
  intro e2
  by_cases e:k=Ls.length
  ·rw [if_pos e] at hr
   rcases hv with hv | hv
   ·rw [hv] at e2;have:=hvl r e2;have:=hsl r hr;omega
   ·have:=hv r e2;have:=hsll r hr;omega
  ·rw [if_neg e] at hr
   rcases hv with hv | hv
   ·rw [hv] at e2;exact h.apart k (by omega) r hr e2
   ·have:=hv r e2;have:=hlt k (by omega) r hr;omega
 ·rw [hlen] at hi hj
  rw [getD_snoc hl hi] at hr
  rw [getD_snoc hl hj]
  intro e2
  by_cases ei:i=Ls.length
  ·rw [if_pos ei] at hr
   rw [if_neg (by omega)] at e2
   have:=hlt j (by omega) r e2;have:=hsl r hr;omega
  ·rw [if_neg ei] at hr
   by_cases ej:j=Ls.length
   ·rw [if_pos ej] at e2
    have:=hlt i (by omega) r hr;have:=hsl r e2;omega
   ·rw [if_neg ej] at e2
    exact h.diff i j (by omega) (by omega) hij r hr e2
section
variable {w:World}
end
theorem two_at {wx:World} {B:Nat} {x y:Value} (h:wx.heap[B]?=some (.cells #[x,y] 31 (0,0))):wx.cell? ⟨B,0,none⟩=some x∧wx.cell? ⟨B,1,none⟩=some y∧wx.frozen? ⟨B,0,none⟩=false∧wx.frozen? ⟨B,1,none⟩=false :=
 ⟨cell_of_row _ B 0 _ _ _ h,cell_of_row _ B 1 _ _ _ h,by simp [World.frozen?,h],by simp [World.frozen?,h]⟩
theorem CO.sameB {w W:World} {base:Nat} {v:Value} {L:List (Int×Int)} (h:CO w base v L) (hk:∀ k,base<=k->k < w.heap.size->W.heap[k]?=w.heap[k]?):CO W base v L:=by
 have hl:=owns_lt h
 refine ⟨h.1,?_⟩
 rcases h.2 with h2 | ⟨g,cap,cur,rfl,hgb,hh,rest⟩
 ·exact .inl h2
 ·exact .inr ⟨g,cap,cur,rfl,hgb,(hk g hgb (hl g (by simp [Value.ownBlock]))).trans hh,rest⟩
theorem PL.sameB {w W:World} {base:Nat} {v:Value} {Ls:List (List (Int×Int))} {vs:List Value} (h:PL w base v Ls vs) (hz:w.heap.size<=W.heap.size) (hk:∀ k,base<=k->k < w.heap.size->W.heap[k]?=w.heap[k]?):PL W base v Ls vs:=by
 refine ⟨?_,h.len,fun k hkl=>(h.inner k hkl).sameB hk,h.apart,h.diff⟩
 rcases h.row with h0 | ⟨g,off,c,rfl,h1,h2,h3,h4,h5,h6⟩
 ·exact .inl h0
 ·have hb:∀ o,(W.heap[(⟨g,o,none⟩:Addr).block]?)=w.heap[(⟨g,o,none⟩:Addr).block]?:=fun o=>hk g h3 h4
  exact .inr ⟨g,off,c,rfl,h1,h2,h3,Nat.lt_of_lt_of_le h4 hz,fun j hj=>(World.cell?_of_block (hb _)).trans (h5 j hj),fun j hj=>by
   have:=h6 j hj
   rw [World.cell?_of_block (hb _),World.frozen?_of_block (hb _)]
   exact this⟩
theorem KO.sameB {w W:World} {base:Nat} {vn vp:Value} {D:KV} {vs:List Value} (h:KO w base vn vp D vs) (hz:w.heap.size<=W.heap.size) (hk:∀ k,base<=k->k < w.heap.size->W.heap[k]?=w.heap[k]?):KO W base vn vp D vs :=
 ⟨h.now.sameB hk,h.past.sameB hz hk,h.apn,h.api⟩
end
section
theorem c_l1In (a b c:Int) (w:World) :
  Calls Tryz.prog 103 #[.int .i64 a,.int .i64 b,.int .i64 c] w fun e w'=>e=.returned (.bool (decide (b<=a∧a<=c)))∧w'=w:=by
 by_cases h1:b<=a
 ·by_cases h2:a<=c
  all_goals
   go_enter Tryz.func103,Tryz.ntmps103
   go_wp2
   go_ret
   exact ⟨by simp [h1,h2],rfl⟩
 ·go_enter Tryz.func103,Tryz.ntmps103
  go_wp2
  go_ret
  exact ⟨by simp;omega,rfl⟩
theorem c_sCustomersOk (L:List (Int×Int)) (A:Option Addr) (c:Nat) (w:World) (hA:Cs w w.heap.size A L) (hn:L.length<=140737488351232) :
  Calls Tryz.prog 49 #[.slice A L.length c] w fun e w'=>e=.returned (.bool (cOk L))∧Below w.heap.size w w':=by
 go_enter Tryz.func49,Tryz.ntmps49
 go_wp2
 go_loopw [3] (fun i wr=>∃ k:Nat,k<=L.length∧i=.int .i64 k∧Hid (okTo L k=true)∧Below w.heap.size w wr)
   (fun i _=>L.length - (intOf i).toNat)
 case atStart=>exact ⟨0,Nat.zero_le _,rfl,rfl,Below.refl _ _⟩
 case round =>
  obtain ⟨k,hk,rfl,hok,hb⟩:=hrel
  by_cases hlt:k < L.length
  ·obtain ⟨b,off,rfl,hlb,hc⟩:=hA (by omega)
   have c1:=(hb.cell (p:=⟨b,off+k * 2,none⟩) hlb).trans (hc k hlt).1
   have c2:=(hb.cell (p:=⟨b,off+k * 2+1,none⟩) hlb).trans (hc k hlt).2
   by_cases h1:0<=X L k∧X L k<=60
   ·have h1':decide (0<=X L k∧X L k<=60)=true:=by simpa using h1
    by_cases h2:1<=Y L k∧Y L k<=9
    ·have h2':decide (1<=Y L k∧Y L k<=9)=true:=by simpa using h2
     by_cases h0:0 < k
     ·have c3:=(hb.cell (p:=⟨b,off+(k - 1) * 2,none⟩) hlb).trans (hc (k - 1) (by omega)).1
      clear hc
      by_cases hp:X L k < X L (k - 1)
      all_goals
       go_wp2_with fail
       go_quiet ((go_at_call 103;exact Calls.quiet_of_same (c_l1In _ _ _ _)))
       go_wp2_with fail
      ·go_ret
       exact ⟨by rw [cOk_no3 hlt h0 hp];rfl,by (repeat (first | exact hb | exact Below.refl _ _ | (with_reducible refine Below.drew ?_) | (with_reducible refine Below.drewN ?_ _) | (with_reducible refine Below.alloc ?_ ?_ _) | (with_reducible refine Below.setCell ?_ ?_ _) | (show _<=_;focus (first | omega | (simp;done) | (simp;omega)))))⟩
      ·go_roundw
       case rel =>
        refine ⟨k+1,by omega,by go_num,?_,by (repeat (first | exact hb | exact Below.refl _ _ | (with_reducible refine Below.drew ?_) | (with_reducible refine Below.drewN ?_ _) | (with_reducible refine Below.alloc ?_ ?_ _) | (with_reducible refine Below.setCell ?_ ?_ _) | (show _<=_;focus (first | omega | (simp;done) | (simp;omega)))))⟩
        exact okTo_step hok.out h1 h2 (fun _=>by omega)
       case measure=>simp [intOf];omega
     ·have h0a:decide ((0:Int) < (k:Int))=false:=by simp;omega
      have h0b:decide (0 < k)=false:=by simp;omega
      clear hc
      go_wp2_with fail
      go_quiet ((go_at_call 103;exact Calls.quiet_of_same (c_l1In _ _ _ _)))
      go_wp2_with fail
      go_roundw
      case rel =>
       refine ⟨k+1,by omega,by go_num,?_,by (repeat (first | exact hb | exact Below.refl _ _ | (with_reducible refine Below.drew ?_) | (with_reducible refine Below.drewN ?_ _) | (with_reducible refine Below.alloc ?_ ?_ _) | (with_reducible refine Below.setCell ?_ ?_ _) | (show _<=_;focus (first | omega | (simp;done) | (simp;omega)))))⟩
       exact okTo_step hok.out h1 h2 (fun h=>absurd h h0)
      case measure=>simp [intOf];omega
    ·have h2':decide (1<=Y L k∧Y L k<=9)=false:=by simpa using h2
     clear hc
     go_wp2_with fail
     go_quiet ((go_at_call 103;exact Calls.quiet_of_same (c_l1In _ _ _ _)))
     go_wp2_with fail
     go_ret
     exact ⟨by rw [cOk_no2 hlt h2];rfl,by (repeat (first | exact hb | exact Below.refl _ _ | (with_reducible refine Below.drew ?_) | (with_reducible refine Below.drewN ?_ _) | (with_reducible refine Below.alloc ?_ ?_ _) | (with_reducible refine Below.setCell ?_ ?_ _) | (show _<=_;focus (first | omega | (simp;done) | (simp;omega)))))⟩
   ·have h1':decide (0<=X L k∧X L k<=60)=false:=by simpa using h1
    clear hc
    go_wp2_with fail
    go_quiet ((go_at_call 103;exact Calls.quiet_of_same (c_l1In _ _ _ _)))
    go_wp2_with fail
    go_ret
    exact ⟨by rw [cOk_no1 hlt h1];rfl,by (repeat (first | exact hb | exact Below.refl _ _ | (with_reducible refine Below.drew ?_) | (with_reducible refine Below.drewN ?_ _) | (with_reducible refine Below.alloc ?_ ?_ _) | (with_reducible refine Below.setCell ?_ ?_ _) | (show _<=_;focus (first | omega | (simp;done) | (simp;omega)))))⟩
  ·go_wp2_with fail
   go_ret
   obtain rfl:k=L.length:=by omega
   exact ⟨by rw [<- cOk_end hok.out];rfl,hb⟩
end
section
attribute [local go_sem ↓] Go.wp_at_zero Go.wp_at_succ
def SmallK (D:KV):Prop:=D.now.length<=10000000∧D.past.length<=10000000∧∀ k,k < D.past.length->(LL D.past k).length<=10000000
theorem small_ok {D:KV} (h:deskOk D=true):SmallK D:=by
 obtain ⟨h1,h2,h3⟩:=deskOk_parts h
 refine ⟨by have:=cOk_len h2;omega,by omega,fun k hk=>?_⟩
 rw [LL_get hk]
 have:=cOk_len (h1 _ (List.getElem_mem hk));omega
theorem all_to {Ls:List (List (Int×Int))} (h:∀ k,k < Ls.length->cOk (LL Ls k)=true):Ls.all cOk=true:=by
 refine List.all_eq_true.2 (fun L hL=>?_)
 obtain ⟨k,hk,rfl⟩:=List.getElem_of_mem hL
 rw [<- LL_get hk];exact h k hk
theorem all_bad {Ls:List (List (Int×Int))} {k:Nat} (hk:k < Ls.length) (h:cOk (LL Ls k)=false):Ls.all cOk=false:=by
 cases e:Ls.all cOk with
 | false=>rfl
 | true =>
  have:=List.all_eq_true.1 e _ (List.getElem_mem hk)
  rw [<- LL_get hk,h] at this;cases this
theorem c_sDeskOk (D:KV) (vn vp:Value) (w:World) (hK:Ks w w.heap.size vn vp D) (hs:SmallK D) :
  Calls Tryz.prog 13 #[.agg #[vn,vp]] w fun e w'=>e=.returned (.bool (deskOk D))∧Below w.heap.size w w':=by
 obtain ⟨⟨An,cn,rfl,hcn,hN⟩,Ap,cp,rfl,hcp,hP⟩:=hK
 obtain ⟨hs1,hs2,hs3⟩:=hs
 have hb0:Below w.heap.size w (w.alloc (.cells #[.slice An D.now.length cn,.slice Ap D.past.length cp] 31)):=by (repeat (first | exact rfl | exact Below.refl _ _ | (with_reducible refine Below.drew ?_) | (with_reducible refine Below.drewN ?_ _) | (with_reducible refine Below.alloc ?_ ?_ _) | (with_reducible refine Below.setCell ?_ ?_ _) | (show _<=_;focus (first | omega | (simp;done) | (simp;omega)))))
 have bR:=heap_alloc_new w (.cells #[.slice An D.now.length cn,.slice Ap D.past.length cp] 31)
 have hz0:(w.alloc (.cells #[.slice An D.now.length cn,.slice Ap D.past.length cp] 31)).heap.size=w.heap.size+1:=by simp
 have HR:=Lib.hid (fun (w':World) (hb:Below (w.heap.size+1) (w.alloc (.cells #[.slice An D.now.length cn,.slice Ap D.past.length cp] 31)) w')=>show w'.cell? ⟨w.heap.size,0,none⟩=some (.slice An D.now.length cn)∧w'.cell? ⟨w.heap.size,1,none⟩=some (.slice Ap D.past.length cp) from
  ⟨(hb.cell (p:=⟨w.heap.size,0,none⟩) (by simp)).trans (cell_of_row _ w.heap.size 0 _ _ _ bR),(hb.cell (p:=⟨w.heap.size,1,none⟩) (by simp)).trans (cell_of_row _ w.heap.size 1 _ _ _ bR)⟩)
 have r1:=(HR.out _ (Below.refl _ _)).2
 have r0:=(HR.out _ (Below.refl _ _)).1
 obtain ⟨w0,hw0⟩:∃ w0,w.alloc (.cells #[.slice An D.now.length cn,.slice Ap D.past.length cp] 31)=w0:=⟨_,rfl⟩
 go_enter Tryz.func13,Tryz.ntmps13
 go_wp2_with fail
 rw [hw0] at hb0 hz0 HR r0 r1
 clear bR hw0
 go_loopw [3] (fun i wr=>∃ k:Nat,k<=D.past.length∧i=.int .i64 (k:Int)∧Hid (∀ j,j < k->cOk (LL D.past j)=true)∧Below (w.heap.size+1) w0 wr) (fun i _=>D.past.length - (intOf i).toNat)
 case atStart=>exact ⟨0,by omega,rfl,Lib.hid (fun j hj=>by omega),Below.refl _ _⟩
 case round =>
  obtain ⟨k,hk,rfl,HN,hb⟩:=hrel
  obtain ⟨c0,c1⟩:=HR.out _ hb
  have hsz:=hb.size
  have hbw:=hb0.trans (hb.mono (by omega))
  have p1:(0:Int)<=(k:Int):=by omega
  by_cases hlt:k < D.past.length
  ·have p2:(k:Int) < (D.past.length:Int):=by omega
   obtain ⟨b,off,rfl,hlb,hc⟩:=hP (by omega)
   obtain ⟨Ak,ck,d1,hck,hAk⟩:=hc k hlt
   have e1:=(hbw.cell (p:=⟨b,off+k,none⟩) hlb).trans d1
   have HC:=Lib.hid (c_sCustomersOk (LL D.past k) Ak ck wr ((hAk.below hbw).more (by omega)) (by have:=hs3 k hlt;omega))
   clear hc d1 hAk
   cases ho:cOk (LL D.past k) with
   | true =>
    have HO:=Lib.hid ho
    clear ho
    go_wp2_with fail
    refine HC.out.mono ?_
    rintro e w1 ⟨rfl,hb1⟩
    rw [HO.out]
    have hb2:=hb.trans (hb1.mono (by omega))
    go_wp2_with fail
    go_roundw
    case rel=>exact ⟨k+1,by omega,by go_num,Lib.hid (fun j hj=>by
     rcases Nat.lt_succ_iff_lt_or_eq.1 hj with h | rfl
     ·exact HN.out j h
     ·exact HO.out),hb2⟩
    case measure=>simp [intOf];omega
   | false =>
    have HO:=Lib.hid ho
    have HV:=Lib.hid (show deskOk D=false by rw [deskOk,all_bad hlt ho];rfl)
    clear ho
    go_wp2_with fail
    refine HC.out.mono ?_
    rintro e w1 ⟨rfl,hb1⟩
    rw [HO.out]
    go_wp2_with fail
    go_ret
    exact ⟨by rw [HV.out];rfl,hbw.trans (hb1.mono (by omega))⟩
  ·have p2:¬ (k:Int) < (D.past.length:Int):=by omega
   have hkl:k=D.past.length:=by omega
   have hv:deskOk D=(cOk D.now && decide (D.past.length<=8)):=by rw [deskOk,all_to (fun j hj=>HN.out j (by omega))];rfl
   have HC:=Lib.hid (c_sCustomersOk D.now An cn wr ((hN.below hbw).more (by omega)) (by omega))
   subst hkl
   cases ho:cOk D.now with
   | true =>
    have HO:=Lib.hid ho
    have HV:=Lib.hid (show deskOk D=decide ((D.past.length:Int)<=8) by rw [hv,ho,Bool.true_and,decide_eq_decide];omega)
    clear ho hv
    go_wp2_with fail
    refine HC.out.mono ?_
    rintro e w1 ⟨rfl,hb1⟩
    rw [HO.out]
    have c1':=(HR.out _ (hb.trans (hb1.mono (by omega)))).2
    go_wp2_with fail
    go_ret
    exact ⟨by rw [HV.out];rfl,hbw.trans (hb1.mono (by omega))⟩
   | false =>
    have HO:=Lib.hid ho
    have HV:=Lib.hid (show deskOk D=false by rw [hv,ho];rfl)
    clear ho hv
    go_wp2_with fail
    refine HC.out.mono ?_
    rintro e w1 ⟨rfl,hb1⟩
    rw [HO.out]
    go_wp2_with fail
    go_ret
    exact ⟨by rw [HV.out];rfl,hbw.trans (hb1.mono (by omega))⟩
structure KCO (w:World) (base:Nat) (vn vp:Value) (D:KV) (vs:List Value):Prop where
 now:CO w base vn D.now
 past:COO w base vp D.past vs
 apn:∀ r,vn.ownBlock=some r->vp.ownBlock≠some r
 api:∀ k,k < D.past.length->∀ r,(vs.getD k undef).ownBlock=some r->vn.ownBlock≠some r
theorem KCO.ko {w:World} {base:Nat} {vn vp:Value} {D:KV} {vs:List Value} (h:KCO w base vn vp D vs):KO w base vn vp D vs:=⟨h.now,PL.ofCOO h.past,h.apn,h.api⟩
theorem COO.base {w:World} {base:Nat} {v:Value} {xss:List (List (Int×Int))} {vs:List Value} (h:COO w base v xss vs):∀ r,v.ownBlock=some r->base<=r:=owns_base h.row
theorem LL_take {Ls:List (List (Int×Int))} {k j:Nat} (h:j < k):LL (Ls.take k) j=LL Ls j:=by simp [LL,List.getD_eq_getElem?_getD,List.getElem?_take_of_lt h]
theorem take_LL {Ls:List (List (Int×Int))} {k:Nat} (h:k < Ls.length):Ls.take (k+1)=Ls.take k++[LL Ls k]:=by rw [LL_get h,List.take_append_getElem]
theorem set2b {w:World} {R:Nat} {t:TypeId} {x y:Value} (q:Value) (h:w.heap[R]?=some (.cells #[x,y] t (0,0))):(w.setCell ⟨R,1,none⟩ q).heap[R]?=some (.cells #[x,q] t (0,0)):=by
 obtain ⟨hlt,he⟩:=Array.getElem?_eq_some_iff.1 h
 rw [Array.getElem?_eq_getElem (by simpa [World.setCell] using hlt)]
 simp [World.setCell,Array.getElem_modify,he]
theorem set2a {w:World} {R:Nat} {t:TypeId} {x y:Value} (q:Value) (h:w.heap[R]?=some (.cells #[x,y] t (0,0))):(w.setCell ⟨R,0,none⟩ q).heap[R]?=some (.cells #[q,y] t (0,0)):=by
 obtain ⟨hlt,he⟩:=Array.getElem?_eq_some_iff.1 h
 rw [Array.getElem?_eq_getElem (by simpa [World.setCell] using hlt)]
 simp [World.setCell,Array.getElem_modify,he]
theorem grown_set1 (w:World) (r o:Nat) (u:Value):w.grownBy (w.setCell ⟨r,o,none⟩ u) (some r) :=
 ⟨rfl,rfl,rfl,by simp [World.setCell],fun b _ hb=>Below.heap_setCell _ _ _ _ (fun e=>hb (by rw [e]))⟩
theorem unfrozen_of {w:World} {R i:Nat} {cs:Array Value} {t:TypeId} (h:w.heap[R]?=some (.cells cs t (0,0))):w.frozen? ⟨R,i,none⟩=false:=by simp [World.frozen?,h]
theorem c_sCopy (D:KV) (vn vp:Value) (w:World) (hK:Ks w w.heap.size vn vp D) (hs:SmallK D) :
  Calls Tryz.prog 63 #[.agg #[vn,vp]] w fun e w'=>∃ vn' vp' vs,e=.returned (.agg #[vn',vp'])∧KCO w' w.heap.size vn' vp' D vs∧Below w.heap.size w w':=by
 obtain ⟨⟨An,cn,rfl,hcn,hN⟩,Ap,cp,rfl,hcp,hP⟩:=hK
 obtain ⟨hs1,hs2,hs3⟩:=hs
 obtain ⟨w0,hw0⟩:∃ w0,((w.alloc (.cells #[.slice An D.now.length cn,.slice Ap D.past.length cp] 31)).alloc (.cells #[.slice none 0 0,.slice none 0 0] 31)).alloc (.cells #[] 100)=w0:=⟨_,rfl⟩
 have hz0:w0.heap.size=w.heap.size+3:=by rw [<- hw0];simp
 have hb0:Below w.heap.size w w0:=by
  rw [<- hw0]
  exact (((Below.refl _ w).alloc (Nat.le_refl _) _).alloc (by simp) _).alloc (by simp;omega) _
 have bR:w0.heap[w.heap.size]?=some (.cells #[.slice An D.now.length cn,.slice Ap D.past.length cp] 31 (0,0)):=by
  rw [<- hw0]
  exact (Below.heap_alloc _ _ _ (by simp;omega)).trans ((Below.heap_alloc _ _ _ (by simp)).trans (heap_alloc_new _ _))
 have bR2:w0.heap[w.heap.size+1]?=some (.cells #[.slice none 0 0,.slice none 0 0] 31 (0,0)):=by
  rw [<- hw0]
  have:=heap_alloc_new (w.alloc (.cells #[.slice An D.now.length cn,.slice Ap D.past.length cp] 31)) (.cells #[.slice none 0 0,.slice none 0 0] 31)
  rw [World.size_alloc] at this
  exact (Below.heap_alloc _ _ _ (by simp)).trans this
 have own0:CO w0 (w.heap.size+2) (.slice (some ⟨w.heap.size+1+1,0,none⟩) 0 0) []:=by
  have:=CO.empty ((w.alloc (.cells #[.slice An D.now.length cn,.slice Ap D.past.length cp] 31)).alloc (.cells #[.slice none 0 0,.slice none 0 0] 31)) (base:=w.heap.size+2) (by simp)
  rw [hw0,World.size_alloc,World.size_alloc] at this
  exact this
 have c0:=cell_of_row _ w.heap.size 0 _ _ _ bR
 have c1:=cell_of_row _ w.heap.size 1 _ _ _ bR
 have hN0:=hN.below hb0
 go_enter Tryz.func63,Tryz.ntmps63
 go_wp2_with (refine app_KC ?_ (.tmp 5) (.tmp 7) ?_ (w.heap.size+2) (.slice (some ⟨w.heap.size+1+1,0,none⟩) 0 0) [] D.now An cn w.heap.size D.now.length D.now.length ?_ ?_ ?_ ?_ ?_ ?_ ?_ ?_ ?_;rfl;rfl;rfl;exact own0;rfl;rfl;(simp);exact hN0;omega;omega;intro G2 c2 w2 o2 hgr2 hb2)
 rw [List.nil_append] at o2
 have hz2:=hb2.size
 have hnl:=owns_lt o2
 have hnb:=owns_base o2
 have bR3:=heap_alloc_new w2 (.cells #[.slice G2 D.now.length c2,.slice none 0 0] 31)
 have hbx:Below (w.heap.size+2) w0 (w2.alloc (.cells #[.slice G2 D.now.length c2,.slice none 0 0] 31)):=hb2.alloc (by omega) _
 have hb23:Below w2.heap.size w2 (w2.alloc (.cells #[.slice G2 D.now.length c2,.slice none 0 0] 31)):=(Below.refl _ w2).alloc (Nat.le_refl _) _
 have hz3:w2.heap.size < (w2.alloc (.cells #[.slice G2 D.now.length c2,.slice none 0 0] 31)).heap.size:=by simp
 have HP:=Lib.hid hP
 have HS:=Lib.hid hs3
 clear hw0 own0 hgr2 hN0 hP hN hs3 c0 c1
 go_loopw [4] (fun i wr=>∃ (k:Nat) (vp:Value) (vs:List Value),k<=D.past.length∧i=.int .i64 (k:Int)∧Below w2.heap.size w2 wr∧wr.heap[w2.heap.size]?=some (.cells #[.slice G2 D.now.length c2,vp] 31 (0,0))∧COO wr (w2.heap.size+1) vp (D.past.take k) vs∧w2.heap.size < wr.heap.size) (fun i _=>D.past.length - (intOf i).toNat)
 case atStart=>exact ⟨0,_,_,by omega,rfl,hb23,bR3,COO.nil _ _,hz3⟩
 case round =>
  clear hbx hb23 bR3 hz3
  obtain ⟨k,vp,vs,hk,rfl,hb,bO,hown,hsz⟩:=hrel
  have hbw:Below (w.heap.size+2) w0 wr:=hb2.trans (hb.mono (by omega))
  have b1:=(hbw.block w.heap.size (by omega)).trans bR
  have b2:=(hbw.block (w.heap.size+1) (by omega)).trans bR2
  have c1:=cell_of_row _ w.heap.size 1 _ _ _ b1
  have d0:=cell_of_row _ w2.heap.size 0 _ _ _ bO
  have d1:=cell_of_row _ w2.heap.size 1 _ _ _ bO
  have p1:(0:Int)<=(k:Int):=by omega
  by_cases hlt:k < D.past.length
  ·have p2:(k:Int) < (D.past.length:Int):=by omega
   obtain ⟨b,off,rfl,hlb,hc⟩:=HP.out (by omega)
   obtain ⟨Ak,ck,q1,hck,hAk⟩:=hc k hlt
   have hbww:Below w.heap.size w wr:=hb0.trans (hbw.mono (by omega))
   have e1:=(hbww.cell (p:=⟨b,off+k,none⟩) hlb).trans q1
   have hAr:=hAk.below hbww
   have hkl:=HS.out k hlt
   obtain ⟨Av,cv,rfl,hcv,-,-⟩:=hown.form
   have hkt:(D.past.take k).length=k:=by rw [List.length_take];omega
   rw [hkt] at d0 d1 bO hown hcv
   clear hc q1 hAk b1
   have HB:=Lib.hid (fun (w':World) (hb':Below wr.heap.size wr w')=>show w'.cell? ⟨w.heap.size,1,none⟩=some (.slice (some ⟨b,off,none⟩) D.past.length cp)∧w'.cell? ⟨b,off+k,none⟩=some (.slice Ak (LL D.past k).length ck)∧w'.cell? ⟨w2.heap.size,1,none⟩=some (.slice Av k cv)∧w'.frozen? ⟨w2.heap.size,1,none⟩=false from
    ⟨(hb'.cell (p:=⟨w.heap.size,1,none⟩) (show w.heap.size < wr.heap.size by omega)).trans c1,(hb'.cell (p:=⟨b,off+k,none⟩) (show b < wr.heap.size by omega)).trans e1,(hb'.cell (p:=⟨w2.heap.size,1,none⟩) hsz).trans d1,(hb'.frozen (p:=⟨w2.heap.size,1,none⟩) hsz).trans (unfrozen_of bO)⟩)
   have q3:Below wr.heap.size wr (wr.alloc (.cells #[] 100)):=(Below.refl wr.heap.size wr).alloc (Nat.le_refl _) _
   obtain ⟨g1,g2,g3,g4⟩:=HB.out _ q3
   clear b2
   go_wp2_with fail
   go_region_law (first
     | (refine step_KC (by rfl) (.tmp 19) (.tmp 24) (by rfl) wr.heap.size (.slice (some ⟨wr.heap.size,0,none⟩) 0 0) [] (LL D.past k) Ak ck w.heap.size (LL D.past k).length (LL D.past k).length (by rfl) (CO.empty wr.drew (Nat.le_refl _)) (by rfl) (by rfl) (by simp) (hAr.below (q3.drew.mono (by omega))) (by omega) (by simp) ?_;intro G6 c6 w6 o6 hgr6 hb6;have hx6:Below wr.heap.size wr w6:=q3.drew.trans hb6;obtain ⟨-,-,g5,g6⟩:=HB.out _ hx6;have g7:=(HB.out _ (hx6.alloc hx6.size (.cells #[.slice G6 (LL D.past k).length c6] 28))).2.2.1;rw [List.nil_append] at o6)
     | (refine step_CO (by rfl) (.tmp 18) (.tmp 26) (by rfl) (w2.heap.size+1) (.slice Av k cv) (D.past.take k) vs wr (.slice G6 (LL D.past k).length c6) (LL D.past k) w6.heap.size (by rfl) hown (hx6.alloc hx6.size _) ((o6.mono (by omega)).alloc _) (owns_base o6) (by rfl) (by rfl) (heap_alloc_new _ _) (by omega) (by have:=hx6.size;simp;omega) ?_;intro g8 c8 w8 o8 hgr8 hor8 hb8;rw [hkt] at o8 ⊢;have hx8:Below (w2.heap.size+1) wr w8:=((hx6.alloc hx6.size _).mono (by omega)).trans hb8;have bO8:=(hx8.block w2.heap.size (by omega)).trans bO;have h81:=cell_of_row _ w2.heap.size 1 _ _ _ bO8;have h8f:w8.frozen? ⟨w2.heap.size,1,none⟩=false:=unfrozen_of bO8))
   all_goals
    have b9:=set2b (.slice (some ⟨g8,0,none⟩) (k+1) c8) bO8
    have o9:=o8.keptLow (grown_set1 w8 w2.heap.size 1 (.slice (some ⟨g8,0,none⟩) (k+1) c8)) (by omega)
    have hx9:Below w2.heap.size w2 (w8.setCell ⟨w2.heap.size,1,none⟩ (.slice (some ⟨g8,0,none⟩) (k+1) c8)):=(hb.trans (hx8.mono (by omega))).setCell (p:=⟨w2.heap.size,1,none⟩) (Nat.le_refl _) _
    have hz9:w2.heap.size < (w8.setCell ⟨w2.heap.size,1,none⟩ (.slice (some ⟨g8,0,none⟩) (k+1) c8)).heap.size:=(Array.getElem?_eq_some_iff.1 b9).1
    rw [<- take_LL hlt] at o9
    clear g1 g2 g3 g4 g5 g6 g7 h81 h8f
    go_wp2_with fail
    go_roundw
    case rel=>exact ⟨k+1,_,_,by omega,by go_num,hx9,b9,o9,hz9⟩
    case measure=>simp [intOf];omega
  ·have p2:¬ (k:Int) < (D.past.length:Int):=by omega
   have hkl:D.past.take k=D.past:=List.take_of_length_le (by omega)
   rw [hkl] at hown
   have r0:=cell_of_row _ (w.heap.size+1) 0 _ _ _ b2
   have r1:=cell_of_row _ (w.heap.size+1) 1 _ _ _ b2
   have f0:wr.frozen? ⟨w.heap.size+1,0,none⟩=false:=unfrozen_of b2
   have f1:wr.frozen? ⟨w.heap.size+1,1,none⟩=false:=unfrozen_of b2
   obtain ⟨Av,cv,rfl,hcv,-,-⟩:=hown.form
   have b7:=set2b (.slice Av D.past.length cv) (set2a (.slice G2 D.now.length c2) b2)
   have HB7:=Lib.hid b7
   have HV:=Lib.hid (show KCO ((wr.setCell ⟨w.heap.size+1,0,none⟩ (.slice G2 D.now.length c2)).setCell ⟨w.heap.size+1,1,none⟩ (.slice Av D.past.length cv)) w.heap.size (.slice G2 D.now.length c2) (.slice Av D.past.length cv) D vs from by
    have hg:=(grown_set1 wr (w.heap.size+1) 0 (.slice G2 D.now.length c2)).trans (grown_set1 _ (w.heap.size+1) 1 (.slice Av D.past.length cv))
    have on:CO wr (w.heap.size+2) (.slice G2 D.now.length c2) D.now:=o2.below hb (Nat.le_refl _)
    refine ⟨(on.grownR' hg (fun r hr e=>by cases e;have:=hnb _ hr;omega)).mono (by omega),(hown.keptLow hg (by omega)).mono (by omega),fun r hr e=>?_,fun j hj r hr e=>?_⟩
    ·have:=hnl r hr
     have:=owns_base hown.row r e
     omega
    ·have:=hnl r e
     have:=owns_base (hown.inner j hj) r hr
     omega)
   have HW:=Lib.hid (show Below w.heap.size w ((wr.setCell ⟨w.heap.size+1,0,none⟩ (.slice G2 D.now.length c2)).setCell ⟨w.heap.size+1,1,none⟩ (.slice Av D.past.length cv)) from
    ((hb0.trans (hbw.mono (by omega))).setCell (p:=⟨w.heap.size+1,0,none⟩) (by simp) _).setCell (p:=⟨w.heap.size+1,1,none⟩) (by simp) _)
   clear b7 b1 b2 hown hkl
   go_wp2_with fail
   have b7:=HB7.out
   have k0:=cell_of_row _ (w.heap.size+1) 0 _ _ _ b7
   have k1:=cell_of_row _ (w.heap.size+1) 1 _ _ _ b7
   refine bodyPost_ret (v:=.agg #[.slice G2 D.now.length c2,.slice Av D.past.length cv]) (by simp [results,Tryz.f63,go_sem,k0,k1]) rfl ?_
   exact ⟨_,_,rfl,⟨_,HV.out⟩,HW.out⟩
end
section
attribute [local go_sem ↓] Go.wp_at_zero Go.wp_at_succ
theorem c_szC (A:Option Addr) (n c:Nat) (l:Int) (w:World) (h0:0<=l) (hl:l<=1048576) (hn:n<=9223372036854775807) :
  Calls Tryz.prog 83 #[.slice A n c,.int .i64 l] w fun e w'=>∃ r:Int,e=.returned (.int .i64 r)∧w=w'∧((r=-1∧l < n)∨(r=l - n∧(n:Int)<=l)):=by
 by_cases h:(n:Int)<=l
 ·exact (c_sz_yes A n c l w h hl hn).mono fun e w' ⟨h1,h2⟩=>⟨_,h1,h2,.inr ⟨rfl,h⟩⟩
 ·exact (c_sz_no A n c l w (by omega) h0 hl hn).mono fun e w' ⟨h1,h2⟩=>⟨_,h1,h2,.inl ⟨rfl,by omega⟩⟩
def totL (Ls:List (List (Int×Int))):Nat->Nat
 | 0=>0
 | k+1=>totL Ls k+(LL Ls k).length
theorem totL_mono (Ls:List (List (Int×Int))):∀ d k,totL Ls k<=totL Ls (k+d):=by
 intro d
 induction d with
 | zero=>intro k;exact Nat.le_refl _
 | succ d ih=>intro k;have:=ih k;show _<=totL Ls (k+d)+_;omega
theorem totL_at {Ls:List (List (Int×Int))} {k:Nat} (h:k < Ls.length):(LL Ls k).length+totL Ls k<=totL Ls Ls.length:=by
 have:=totL_mono Ls (Ls.length - (k+1)) (k+1)
 rw [show k+1+(Ls.length - (k+1))=Ls.length by omega] at this
 simp only [totL] at this
 omega
theorem c_szCC (Ls:List (List (Int×Int))) (A:Option Addr) (c B:Nat) (l:Int) (w:World) (hA:Css w B A Ls) (h0:0<=l) (hl:l<=1048576) (hn:Ls.length<=9223372036854775807) (hm:∀ k,k < Ls.length->(LL Ls k).length<=9223372036854775807) :
  Calls Tryz.prog 84 #[.slice A Ls.length c,.int .i64 l] w fun e w'=>∃ r:Int,e=.returned (.int .i64 r)∧w=w'∧-1<=r∧r<=1048576∧(0<=r->r=l - (Ls.length:Int) - (totL Ls Ls.length:Int)):=by
 have HA:=Lib.hid hA
 have HM:=Lib.hid hm
 clear hA hm
 go_enter Tryz.func84,Tryz.ntmps84
 by_cases hb:(Ls.length:Int)<=l
 ·have q1:IntKind.i64.wrap (l - (Ls.length:Int))=l - (Ls.length:Int):=IntWalk.i64_in _ (by omega)
  have q2:decide (l - (Ls.length:Int) < 0)=false:=decide_eq_false (by omega)
  go_wp2_with fail
  go_loop [1,5] (fun q i=>∃ (k:Nat) (m:Int),k<=Ls.length∧i=.int .i64 k∧q=.int .i64 m∧0<=m∧m<=1048576∧Hid (m=l - (Ls.length:Int) - (totL Ls k:Int))) (fun _ i=>Ls.length - (intOf i).toNat)
  case atStart=>exact ⟨0,l - (Ls.length:Int),Nat.zero_le _,rfl,rfl,by omega,by omega,Lib.hid (by simp [totL])⟩
  case round =>
   obtain ⟨k,m,hk,rfl,rfl,hm0,hm1,HJ⟩:=hrel
   by_cases hlt:k < Ls.length
   ·obtain ⟨b,off,rfl,hlb,hc⟩:=HA.out (by omega)
    obtain ⟨Ak,ck,c1,-,-⟩:=hc k hlt
    have HS:=Lib.hid (c_szC Ak (LL Ls k).length ck m w hm0 hm1 (HM.out k hlt))
    clear hc
    go_wp2_with fail
    refine HS.out.mono ?_
    rintro e w1 ⟨r,rfl,rfl,hr⟩
    rcases hr with ⟨rfl,hr⟩ | ⟨rfl,hr⟩
    ·go_wp2_with fail
     go_ret
     exact ⟨-1,rfl,rfl,by omega,by omega,fun h=>by omega⟩
    ·have q3:decide (m - ((LL Ls k).length:Int) < 0)=false:=decide_eq_false (by omega)
     have HJ2:Hid (m - ((LL Ls k).length:Int)=l - (Ls.length:Int) - (totL Ls (k+1):Int)):=Lib.hid (by have:=HJ.out;simp only [totL];omega)
     go_wp2_with fail
     go_round
     case rel=>exact ⟨k+1,_,by omega,by go_num,rfl,by omega,by omega,HJ2⟩
     case measure=>simp [intOf];omega
   ·go_wp2_with fail
    go_ret
    obtain rfl:k=Ls.length:=by omega
    exact ⟨m,rfl,rfl,by omega,by omega,fun _=>HJ.out⟩
 ·have q0:-9223372036854775808<=l - (Ls.length:Int):=by omega
  have q1:IntKind.i64.wrap (l - (Ls.length:Int))=l - (Ls.length:Int):=IntWalk.i64_in _ (by omega)
  have q2:decide (l - (Ls.length:Int) < 0)=true:=decide_eq_true (by omega)
  go_wp2_with fail
  go_ret
  exact ⟨-1,rfl,rfl,by omega,by omega,fun h=>by omega⟩
def fillK (Ls:List (List (Int×Int))) (k:Nat):List (List (Int×Int)):=Ls.take k++List.replicate (Ls.length - k) []
theorem fillK_all (Ls:List (List (Int×Int))):fillK Ls Ls.length=Ls:=by simp [fillK]
theorem fillK_succ {Ls:List (List (Int×Int))} {k:Nat} (h:k < Ls.length):(fillK Ls k).set k (LL Ls k)=fillK Ls (k+1):=by
 apply List.ext_getElem (by simp [fillK];omega)
 intro i h1 h2
 simp only [fillK,List.length_set,List.length_append,List.length_take,List.length_replicate] at h1 h2
 rw [List.getElem_set]
 by_cases e:k=i
 ·subst e
  simp only [if_true,fillK]
  rw [List.getElem_append_left (by simp;omega),List.getElem_take,LL_get h]
 ·rw [if_neg e]
  simp only [fillK]
  by_cases hi:i < k
  ·rw [List.getElem_append_left (by simp;omega),List.getElem_append_left (by simp;omega),List.getElem_take,List.getElem_take]
  ·rw [List.getElem_append_right (by simp;omega),List.getElem_append_right (by simp;omega)]
   simp
theorem COO.made {w:World} {base g n:Nat} (h:w.ownsRow base 28 1 (.slice (some ⟨g,0,none⟩) n n) n (List.replicate n (.slice none 0 0))):COO w base (.slice (some ⟨g,0,none⟩) n n) (List.replicate n []) (List.replicate n (.slice none 0 0)):=by
 have gv:∀ k,k < n->(List.replicate n (Value.slice none 0 0)).getD k undef=.slice none 0 0:=fun k hk=>by simp [List.getD_eq_getElem?_getD,hk]
 refine ⟨by simpa using h,fun k hk=>?_,fun k hk r hr=>?_,fun i j hi hj hij r hr=>?_⟩
 ·rw [List.length_replicate] at hk
  rw [gv k hk]
  simp only [List.getD_eq_getElem?_getD,List.getElem?_replicate,hk,if_true,Option.getD_some]
  exact CO.nil _ _
 ·rw [List.length_replicate] at hk
  rw [gv k hk] at hr
  simp [Value.ownBlock] at hr
 ·rw [List.length_replicate] at hi
  rw [gv i hi] at hr
  simp [Value.ownBlock] at hr
theorem c_toCC (Ls:List (List (Int×Int))) (A:Option Addr) (c:Nat) (w:World) (hA:Css w w.heap.size A Ls) (hn:Ls.length<=1048576) (hm:∀ k,k < Ls.length->(LL Ls k).length<=1048576) :
  Calls Tryz.prog 86 #[.slice A Ls.length c] w fun e w'=>∃ v vs,e=.returned v∧COO w' w.heap.size v Ls vs∧Below w.heap.size w w':=by
 obtain ⟨i0,hi,hz0,hz1,hz2⟩:=info_parts infoCS
 have HA:=Lib.hid hA
 have HM:=Lib.hid hm
 clear hA hm
 go_enter Tryz.func86,Tryz.ntmps86
 go_wp2_with (at_make;refine wpList_make_full w rfl _ _ _ rfl w.heap.size 28 i0 _ 1 Tryz.underlying29 hi hz0 hz1 .i64 .i64 _ _ Ls.length rfl rfl rfl rfl (by rw [hz2];omega) (by simp only [maxLen];omega) (Nat.le_refl _) ?_;intro w1 hown1 hgr1)
 have hb1:Below w.heap.size w w1:=(Below.refl _ _).grown hgr1 (Nat.le_refl _) (by simp)
 have o1:COO w1 w.heap.size (.slice (some ⟨w.heap.size,0,none⟩) Ls.length Ls.length) (fillK Ls 0) (List.replicate Ls.length (.slice none 0 0)):=by
  rw [show fillK Ls 0=List.replicate Ls.length [] by simp [fillK]]
  refine COO.made ?_
  have e:(madeCells (Value.slice none 0 0).cells (Ls.length * 1)).toList=List.replicate Ls.length (.slice none 0 0):=by rw [Nat.mul_one];exact toList_madeCells_one _ _
  rw [<- e]
  exact hown1
 clear hown1 hgr1
 go_loopw [4] (fun i wr=>∃ (k:Nat) (vs:List Value),k<=Ls.length∧i=.int .i64 k∧COO wr w.heap.size (.slice (some ⟨w.heap.size,0,none⟩) Ls.length Ls.length) (fillK Ls k) vs∧Below w.heap.size w wr)
  (fun i _=>Ls.length - (intOf i).toNat)
 case atStart=>exact ⟨0,_,by omega,rfl,o1,hb1⟩
 case round =>
  obtain ⟨k,vs,hk,rfl,hown,hb⟩:=hrel
  have hsz:=hb.size
  by_cases hlt:k < Ls.length
  ·obtain ⟨b,off,rfl,hlb,hc⟩:=HA.out (by omega)
   obtain ⟨Ak,ck,c1,-,hcs⟩:=hc k hlt
   have c1:=(hb.cell (p:=⟨b,off+k,none⟩) hlb).trans c1
   have HT:=Lib.hid (c_toCustomerS (LL Ls k) Ak ck wr ((hcs.below hb).more hsz) (HM.out k hlt))
   have p1:(0:Int)<=(k:Int):=by omega
   have p2:(k:Int) < (Ls.length:Int):=by omega
   clear hb1 o1 hc hcs
   go_wp2_with fail
   refine HT.out.mono ?_
   rintro e w5 ⟨v5,rfl,o5,hb5⟩
   obtain ⟨G5,g5,rfl,-,-,-⟩:=o5.form
   have hb7:=hb.trans (hb5.mono hsz)
   have hcl:=hown.cells
   have hlt0:=owns_lt hown.row w.heap.size (by simp [Value.ownBlock])
   have d1:=(hb5.cell (p:=⟨w.heap.size,k,none⟩) hlt0).trans (hcl.2.1 k hlt)
   have f1:w5.frozen? ⟨w.heap.size,k,none⟩=false:=by
    rw [World.frozen?_of_block (hb5.block w.heap.size hlt0)];exact hcl.2.2 k
   have HO:=Lib.hid (hown.store hb5 (o5.mono (by omega)) (fun r hr=>owns_base o5 r hr) k hlt)
   rw [fillK_succ hlt] at HO
   clear hcl HT hown o5
   go_wp2_with fail
   go_roundw
   case rel=>exact ⟨k+1,_,by omega,by go_num,HO.out,hb7.setCell (p:=⟨w.heap.size,k,none⟩) (Nat.le_refl _) _⟩
   case measure=>simp [intOf];omega
  ·go_wp2_with fail
   go_ret
   obtain rfl:k=Ls.length:=by omega
   rw [fillK_all] at hown
   exact ⟨_,vs,rfl,hown,hb⟩
theorem c_eqCC (Ls:List (List (Int×Int))) (A B:Option Addr) (c d:Nat) (w:World) (hA:Css w w.heap.size A Ls) (hB:Css w w.heap.size B Ls) (hn:Ls.length<=1048576) (hm:∀ k,k < Ls.length->(LL Ls k).length<=1048576) :
  Calls Tryz.prog 88 #[.slice A Ls.length c,.slice B Ls.length d] w fun e w'=>e=.returned (.bool true)∧Below w.heap.size w w':=by
 have HA:=Lib.hid hA
 have HB:=Lib.hid hB
 have HM:=Lib.hid hm
 clear hA hB hm
 go_enter Tryz.func88,Tryz.ntmps88
 go_wp2_with fail
 go_loopw [5] (fun i wr=>∃ k:Nat,k<=Ls.length∧i=.int .i64 k∧Below w.heap.size w wr) (fun i _=>Ls.length - (intOf i).toNat)
 case atStart=>exact ⟨0,Nat.zero_le _,rfl,Below.refl _ _⟩
 case round =>
  obtain ⟨k,hk,rfl,hb⟩:=hrel
  have hsz:=hb.size
  by_cases hlt:k < Ls.length
  ·obtain ⟨b,off,rfl,hlb,hc⟩:=HA.out (by omega)
   obtain ⟨b2,off2,rfl,hlb2,hc2⟩:=HB.out (by omega)
   obtain ⟨Ak,ck,p1,-,p3⟩:=hc k hlt
   obtain ⟨Bk,dk,q1,-,q3⟩:=hc2 k hlt
   have c0:=WB.cell (B:=w.heap.size) (w:=wr) hlb ((hb.cell (p:=⟨b,off+k,none⟩) hlb).trans p1)
   have c1:=WB.cell (B:=w.heap.size) (w:=wr) hlb2 ((hb.cell (p:=⟨b2,off2+k,none⟩) hlb2).trans q1)
   have z1:(0:Int)<=(k:Int):=by omega
   have z2:(k:Int) < (Ls.length:Int):=by omega
   have HK:=Lib.hid (fun W (hW:Below w.heap.size wr W)=>c_eqCustomerS (LL Ls k) Ak Bk ck dk W ((p3.below (hb.trans hW)).more (hb.trans hW).size) ((q3.below (hb.trans hW)).more (hb.trans hW).size) (HM.out k hlt))
   clear hc hc2 p1 q1 p3 q3
   go_wp2_with fail
   refine wp_region_wb w.heap.size (by kernel_rfl) (by kernel_rfl) ?_
   repeat (go_big_quiet_step ((go_at_call 87;exact Calls.inB hsz (HK.out _ (WB.below _)))))
   refine wpQuiet_nil ?_
   rintro w5 ⟨⟨_,hb5⟩,rfl⟩
   go_wp2_with fail
   go_roundw
   case rel=>exact ⟨k+1,by omega,by go_num,hb.trans hb5⟩
   case measure=>simp [intOf];omega
  ·go_wp2_with fail
   go_ret
   exact ⟨rfl,hb⟩
end
section
attribute [local go_sem ↓] Go.wp_at_zero Go.wp_at_succ
def markedTo (Ls:List (List (Int×Int))) (k0:Int) (i:Nat):List (List (Int×Int)):=(List.range Ls.length).map fun j=>if j < i then marks (LL Ls j).length (k0+2 * (totL Ls j:Int)) else LL Ls j
theorem markedTo_len (Ls:List (List (Int×Int))) (k0:Int) (i:Nat):(markedTo Ls k0 i).length=Ls.length:=by simp [markedTo]
theorem markedTo_LL {Ls:List (List (Int×Int))} {k0:Int} {i j:Nat} (h:j < Ls.length):LL (markedTo Ls k0 i) j=if j < i then marks (LL Ls j).length (k0+2 * (totL Ls j:Int)) else LL Ls j:=by
 rw [LL_get (by rw [markedTo_len];exact h)]
 simp [markedTo]
theorem markedTo_zero (Ls:List (List (Int×Int))) (k0:Int):markedTo Ls k0 0=Ls:=by
 refine List.ext_getElem (markedTo_len _ _ _) fun i h1 h2=>?_
 have:=markedTo_LL (Ls:=Ls) (k0:=k0) (i:=0) h2
 rw [LL_get h1,if_neg (by omega),LL_get h2] at this
 exact this
theorem markedTo_succ {Ls:List (List (Int×Int))} {k0:Int} {i:Nat} (h:i < Ls.length):(markedTo Ls k0 i).set i (marks (LL Ls i).length (k0+2 * (totL Ls i:Int)))=markedTo Ls k0 (i+1):=by
 refine List.ext_getElem (by simp [markedTo]) fun j h1 h2=>?_
 have hj:j < Ls.length:=by rw [List.length_set,markedTo_len] at h1;exact h1
 rw [List.getElem_set]
 by_cases e:i=j
 ·subst e
  simp [markedTo]
 ·rw [if_neg e]
  simp only [markedTo,List.getElem_map,List.getElem_range]
  by_cases hi:j < i
  ·rw [if_pos hi,if_pos (by omega)]
  ·rw [if_neg hi,if_neg (by omega)]
theorem PL.write {w w':World} {base:Nat} {v:Value} {Ls:List (List (Int×Int))} {vs:List Value} {k:Nat} {ys:List (Int×Int)} (h:PL w base v Ls vs) (hk:k < Ls.length) (hin:CO w' base (vs.getD k undef) ys) (hg:w.grownBy w' (vs.getD k undef).ownBlock):PL w' base v (Ls.set k ys) vs:=by
 have hll:∀ j,j < Ls.length->LL (Ls.set k ys) j=if k=j then ys else LL Ls j:=fun j hj=>by
  rw [LL_get (by simpa using hj),List.getElem_set,LL_get hj]
 refine ⟨?_,by rw [List.length_set];exact h.len,fun j hj=>?_,fun j hj=>?_,fun i j hi hj=>?_⟩
 ·rw [List.length_set]
  rcases h.row with ⟨rfl,h0⟩ | ⟨g,off,c,rfl,h1,h2,h3,h4,h5,h6⟩
  ·rw [h0] at hk;simp at hk
  ·have hne:(Value.slice (some ⟨g,off,none⟩) Ls.length c).ownBlock=some g:=rfl
   have hb:∀ o,(w'.heap[(⟨g,o,none⟩:Addr).block]?)=w.heap[(⟨g,o,none⟩:Addr).block]?:=fun o=>hg.block g h4 fun e=>h.apart k hk g e.symm hne
   exact .inr ⟨g,off,c,rfl,h1,h2,h3,Nat.lt_of_lt_of_le h4 hg.size,fun j hj=>(World.cell?_of_block (hb _)).trans (h5 j hj),fun j hj=>by
    have:=h6 j hj
    rw [World.cell?_of_block (hb _),World.frozen?_of_block (hb _)]
    exact this⟩
 ·rw [List.length_set] at hj
  rw [hll j hj]
  by_cases e:k=j
  ·subst e;rw [if_pos rfl];exact hin
  ·rw [if_neg e]
   exact (h.inner j hj).grownR' hg (fun r hr e2=>h.diff k j hk hj e r e2 hr)
 ·rw [List.length_set] at hj;exact h.apart j hj
 ·rw [List.length_set] at hi hj;exact h.diff i j hi hj
theorem c_markCC (Ls:List (List (Int×Int))) (k0:Int) (v:Value) (vs:List Value) (base:Nat) (w:World) (hv:PL w base v Ls vs) (hn:Ls.length<=1048576) (ht:totL Ls Ls.length<=1048576) (hk0:0<=k0) (hk1:k0<=100000000) (hbase:base<=w.heap.size) :
  Calls Tryz.prog 90 #[v,.int .i64 k0] w fun e w'=>e=.returned (.int .i64 (k0+2 * (totL Ls Ls.length:Int)))∧PL w' base v (markedTo Ls k0 Ls.length) vs∧Below base w w'∧(∀ b,b < w.heap.size->(∀ k,k < Ls.length->(vs.getD k undef).ownBlock≠some b)->w'.heap[b]?=w.heap[b]?):=by
 obtain ⟨A,c,rfl⟩:∃ A c,v=.slice A Ls.length c:=by
  rcases hv.row with ⟨rfl,h0⟩ | ⟨g,off,c,rfl,_⟩
  ·exact ⟨none,0,by rw [h0];rfl⟩
  ·exact ⟨_,c,rfl⟩
 have HT:=Lib.hid (fun k (hk:k < Ls.length)=>totL_at hk)
 go_enter Tryz.func90,Tryz.ntmps90
 go_wp2_with fail
 go_loopw [1,5] (fun q i wr=>∃ k:Nat,k<=Ls.length∧i=.int .i64 k∧q=.int .i64 (k0+2 * (totL Ls k:Int))∧PL wr base (.slice A Ls.length c) (markedTo Ls k0 k) vs∧Below base w wr∧Hid (∀ b,b < w.heap.size->(∀ k,k < Ls.length->(vs.getD k undef).ownBlock≠some b)->wr.heap[b]?=w.heap[b]?)) (fun _ i _=>Ls.length - (intOf i).toNat)
 case atStart=>exact ⟨0,Nat.zero_le _,rfl,by simp [totL],by rw [markedTo_zero];exact hv,Below.refl _ _,Lib.hid fun _ _ _=>rfl⟩
 case round =>
  obtain ⟨k,hk,rfl,rfl,hown,hb,HO⟩:=hrel
  have hsz:=hb.size
  by_cases hlt:k < Ls.length
  ·have htk:=HT.out k hlt
   have hin:=hown.inner k (by rw [markedTo_len];exact hlt)
   rw [markedTo_LL hlt,if_neg (by omega)] at hin
   obtain ⟨g,off,rfl,c1⟩:∃ g off,A=some ⟨g,off,none⟩∧wr.cell? ⟨g,off+k,none⟩=some (vs.getD k undef):=by
    rcases hown.row with ⟨e,h0⟩ | ⟨g,off,c',e,-,-,-,-,h5,-⟩
    ·have:=markedTo_len Ls k0 k;rw [h0] at this;simp at this;omega
    ·injection e with e1
     exact ⟨g,off,e1,h5 k (by rw [markedTo_len];exact hlt)⟩
   obtain ⟨ri,ci,hvk,-,-,-⟩:=hin.form
   have HW:=Lib.hid (fun w' (h1:CO w' base (vs.getD k undef) (marks (LL Ls k).length (k0+2 * (totL Ls k:Int)))) (h2:wr.grownBy w' (vs.getD k undef).ownBlock)=>show PL w' base (.slice (some ⟨g,off,none⟩) Ls.length c) (markedTo Ls k0 (k+1)) vs from by
    have:=hown.write (k:=k) (by rw [markedTo_len];exact hlt) h1 h2
    rw [markedTo_succ hlt] at this
    exact this)
   have HK:=Lib.hid (c_markCustomerS (LL Ls k) (k0+2 * (totL Ls k:Int)) (vs.getD k undef) base wr hin (by omega) (by omega) (by omega))
   have HB:=Lib.hid (owns_base hin)
   have HV:=Lib.hid hvk
   have HNE:=Lib.hid (fun b (hall:∀ j,j < Ls.length->(vs.getD j undef).ownBlock≠some b)=>show (vs.getD k undef).ownBlock≠some b from hall k hlt)
   have p1:(0:Int)<=(k:Int):=by omega
   have p2:(k:Int) < (Ls.length:Int):=by omega
   generalize vs.getD k undef=vk at *
   subst hvk
   clear hin hown
   go_wp2_with fail
   refine HK.out.mono ?_
   rintro e w1 ⟨rfl,hin1,hg1⟩
   have hw:=HW.out w1 hin1 hg1
   have hb1:Below base wr w1:=(Below.refl _ _).grown hg1 (by omega) HB.out
   have HO2:Hid (∀ b,b < w.heap.size->(∀ k,k < Ls.length->(vs.getD k undef).ownBlock≠some b)->w1.heap[b]?=w.heap[b]?):=Lib.hid fun b hbl hall=>(hg1.block b (by omega) (fun e=>HNE.out b hall e.symm)).trans (HO.out b hbl hall)
   clear hg1 hin1 HW HK HV
   go_wp2_with fail
   go_roundw
   case rel=>exact ⟨k+1,by omega,by go_num,by simp only [totL];congr 1;simp;omega,hw,hb.trans hb1,HO2⟩
   case measure=>simp [intOf];omega
  ·go_wp2_with fail
   go_ret
   obtain rfl:k=Ls.length:=by omega
   exact ⟨rfl,hown,hb,HO.out⟩
theorem c_heldCC (Ls:List (List (Int×Int))) (k0:Int) (A:Option Addr) (c B:Nat) (w:World) (hA:Css w B A (markedTo Ls k0 Ls.length)) (ht:totL Ls Ls.length<=1048576) (hk0:0<=k0) (hk1:k0<=100000000) (hn:Ls.length<=1048576) :
  Calls Tryz.prog 92 #[.slice A Ls.length c,.int .i64 k0] w fun e w'=>e=.returned (.int .i64 (k0+2 * (totL Ls Ls.length:Int)))∧w=w':=by
 have HA:=Lib.hid hA
 have HT:=Lib.hid (fun k (hk:k < Ls.length)=>totL_at hk)
 clear hA
 go_enter Tryz.func92,Tryz.ntmps92
 go_wp2_with fail
 go_loop [1,5] (fun q i=>∃ k:Nat,k<=Ls.length∧i=.int .i64 k∧q=.int .i64 (k0+2 * (totL Ls k:Int))) (fun _ i=>Ls.length - (intOf i).toNat)
 case atStart=>exact ⟨0,Nat.zero_le _,rfl,by simp [totL]⟩
 case round =>
  obtain ⟨k,hk,rfl,rfl⟩:=hrel
  by_cases hlt:k < Ls.length
  ·have htk:=HT.out k hlt
   obtain ⟨b,off,rfl,hlb,hc⟩:=HA.out (by rw [markedTo_len];omega)
   obtain ⟨Ak,ck,c1,-,hcs⟩:=hc k (by rw [markedTo_len];exact hlt)
   rw [markedTo_LL hlt,if_pos hlt] at c1 hcs
   rw [marks_len] at c1
   have HK:=Lib.hid (c_heldCustomerS (LL Ls k).length (k0+2 * (totL Ls k:Int)) Ak ck B w hcs (by omega) (by omega) (by omega))
   have p1:(0:Int)<=(k:Int):=by omega
   have p2:(k:Int) < (Ls.length:Int):=by omega
   have p3:decide (k0+2 * (totL Ls k:Int)+2 * ((LL Ls k).length:Int) < 0)=false:=decide_eq_false (by omega)
   clear hc hcs
   go_wp2_with fail
   refine HK.out.mono ?_
   rintro e w1 ⟨rfl,rfl⟩
   go_wp2_with fail
   go_round
   case rel=>exact ⟨k+1,by omega,by go_num,by simp only [totL];congr 1;simp;omega⟩
   case measure=>simp [intOf];omega
  ·go_wp2_with fail
   go_ret
   obtain rfl:k=Ls.length:=by omega
   exact ⟨rfl,rfl⟩
end
section
theorem c_within (a b c:Int) (w:World) :
  Calls Tryz.prog 55 #[.int .i64 a,.int .i64 b,.int .i64 c] w fun e w'=>e=.returned (.bool (decide (b<=a∧a<=c)))∧w=w':=by
 by_cases h1:b<=a
 ·by_cases h2:a<=c
  all_goals
   go_enter Tryz.func55,Tryz.ntmps55
   go_wp2
   go_ret
   exact ⟨by simp [h1,h2],rfl⟩
 ·go_enter Tryz.func55,Tryz.ntmps55
  go_wp2
  go_ret
  exact ⟨by simp;omega,rfl⟩
theorem c_ok (x y:Int) (w:World) :
  Calls Tryz.prog 116 #[.agg #[.int .i64 x,.int .i64 y]] w fun e w'=>e=.returned (.bool (cok x y))∧Below w.heap.size w w':=by
 by_cases h1:0<=x∧x<=60
 ·have h1':decide (0<=x∧x<=60)=true:=by simpa using h1
  go_enter Tryz.func116,Tryz.ntmps116
  go_wp2_with (go_at_call 55;refine (c_within _ _ _ _).mono ?_;rintro e w' ⟨rfl,rfl⟩)
  go_ret
  exact ⟨by simp [cok,h1],(Below.refl _ _).alloc (Nat.le_refl _) _⟩
 ·have h1':decide (0<=x∧x<=60)=false:=by simpa using h1
  go_enter Tryz.func116,Tryz.ntmps116
  go_wp2_with (go_at_call 55;refine (c_within _ _ _ _).mono ?_;rintro e w' ⟨rfl,rfl⟩)
  go_ret
  exact ⟨by simp [cok,h1],(Below.refl _ _).alloc (Nat.le_refl _) _⟩
theorem c_iCustomersOk (L:List (Int×Int)) (A:Option Addr) (c:Nat) (w:World) (hA:Cs w w.heap.size A L) (hn:L.length<=140737488351232) :
  Calls Tryz.prog 61 #[.slice A L.length c] w fun e w'=>e=.returned (.bool (cOk L))∧Below w.heap.size w w':=by
 by_cases h8:L.length<=8
 ·go_enter Tryz.func61,Tryz.ntmps61
  go_wp2
  go_loopw [3,11] (fun ah i wr=>∃ k:Nat,k<=L.length∧i=.int .i64 k∧ah=.int .i64 (prevOf L k)∧Hid (okTo L k=true)∧Below w.heap.size w wr)
   (fun _ i _=>L.length - (intOf i).toNat)
  case atStart=>exact ⟨0,Nat.zero_le _,rfl,rfl,rfl,Below.refl _ _⟩
  case round =>
   obtain ⟨k,hk,rfl,rfl,hok,hb⟩:=hrel
   by_cases hlt:k < L.length
   ·obtain ⟨b,off,rfl,hlb,hc⟩:=hA (by omega)
    have c1:=(hb.cell (p:=⟨b,off+k * 2,none⟩) hlb).trans (hc k hlt).1
    have c2:=(hb.cell (p:=⟨b,off+k * 2+1,none⟩) hlb).trans (hc k hlt).2
    clear hc
    have hsz:=hb.size
    by_cases hck:cok (X L k) (Y L k)=true
    ·have Hck:=Lib.hid hck;clear hck
     by_cases hp:prevOf L k<=X L k
     all_goals
      go_wp2_with fail
      refine (c_ok _ _ _).mono ?_
      rintro e w1 ⟨rfl,hb1⟩
      obtain ⟨hc1,hf1⟩:=bcell hb1
      rw [Hck.out]
      go_wp2_with fail
     ·go_roundw
      case rel =>
       refine ⟨k+1,by omega,by go_num,rfl,?_,?_⟩
       ·show okTo L (k+1)=true
        simp [okTo,hok.out,okAt_of Hck.out hp]
       ·refine Below.trans ?_ (hb1.mono ?_)
        all_goals (repeat (first | exact hb | exact Below.refl _ _ | (with_reducible refine Below.drew ?_) | (with_reducible refine Below.drewN ?_ _) | (with_reducible refine Below.alloc ?_ ?_ _) | (with_reducible refine Below.setCell ?_ ?_ _) | (show _<=_;focus (first | omega | (simp;done) | (simp;omega)))))
      case measure=>simp [intOf];omega
     ·go_ret
      refine ⟨by simp [cOk,okTo_no hlt (okAt_no2 (by omega))],?_⟩
      refine Below.trans ?_ (hb1.mono ?_)
      all_goals (repeat (first | exact hb | exact Below.refl _ _ | (with_reducible refine Below.drew ?_) | (with_reducible refine Below.drewN ?_ _) | (with_reducible refine Below.alloc ?_ ?_ _) | (with_reducible refine Below.setCell ?_ ?_ _) | (show _<=_;focus (first | omega | (simp;done) | (simp;omega)))))
    ·have hck':cok (X L k) (Y L k)=false:=by simpa using hck
     have Hck:=Lib.hid hck';clear hck hck'
     go_wp2_with fail
     refine (c_ok _ _ _).mono ?_
     rintro e w1 ⟨rfl,hb1⟩
     rw [Hck.out]
     go_wp2_with fail
     go_ret
     refine ⟨by simp [cOk,okTo_no hlt (okAt_no1 Hck.out)],?_⟩
     refine Below.trans ?_ (hb1.mono ?_)
     all_goals (repeat (first | exact hb | exact Below.refl _ _ | (with_reducible refine Below.drew ?_) | (with_reducible refine Below.drewN ?_ _) | (with_reducible refine Below.alloc ?_ ?_ _) | (with_reducible refine Below.setCell ?_ ?_ _) | (show _<=_;focus (first | omega | (simp;done) | (simp;omega)))))
   ·go_wp2_with fail
    go_ret
    exact ⟨by rw [show k=L.length by omega] at hok;simp [cOk,h8,hok.out],hb⟩
 ·go_enter Tryz.func61,Tryz.ntmps61
  go_wp2
  go_ret
  exact ⟨by simp [cOk,h8],Below.refl _ _⟩
end
end Go.Proofs.YthpccmkagikhjaaGreatDoor

import Derived.Test.YthpccmkagikhjaaGreatDoorQExactDeskSay11
import Derived.Test.YthpccmkagikhjaaGreatDoorQExactDeskSay12
import Derived.Test.YthpccmkagikhjaaGreatDoorQExactDeskSay13
import Derived.ArgAppend
namespace Go.Proofs.YthpccmkagikhjaaGreatDoor
set_option linter.unusedVariables false
open Go.RowKit
set_option maxRecDepth 8000
set_option maxHeartbeats 16000000
section
theorem grownBy_set (W:World) (b o:Nat) (v:Value):W.grownBy (W.setCell ⟨b,o,none⟩ v) (some b) :=
 ⟨rfl,rfl,rfl,by simp [World.setCell],fun k _ hk=>Below.heap_setCell _ _ _ k (fun e=>hk (by rw [e]))⟩
def QO (w:World) (base:Nat) (v:Value) (xs:List Int):Prop :=
 ∃ g off c,v=.slice (some ⟨g,off,none⟩) xs.length c∧xs.length<=c∧c<=maxLen∧base<=g∧g < w.heap.size∧(∀ j,j < xs.length->w.cell? ⟨g,off+j,none⟩=some (.int .i64 (Z xs j))) ∧
  ∀ j,j < c->(w.cell? ⟨g,off+j,none⟩).isSome=true∧w.frozen? ⟨g,off+j,none⟩=false
theorem QO.empty (w:World) {base:Nat} (h:base<=w.heap.size):QO (w.alloc (.cells #[] 3)) base (.slice (some ⟨w.heap.size,0,none⟩) 0 0) [] :=
 ⟨w.heap.size,0,0,rfl,Nat.le_refl _,by simp [maxLen],h,by simp,fun j hj=>by simp at hj,fun j hj=>by omega⟩
theorem QO.kept {w w':World} {base:Nat} {row:Option Nat} {v:Value} {xs:List Int} (h:QO w base v xs) (hg:w.grownBy w' row) (hr:∀ r,v.ownBlock=some r->row≠some r):QO w' base v xs:=by
 obtain ⟨g,off,c,rfl,h1,h2,h3,h4,h5,h6⟩:=h
 have hb:∀ o,(w'.heap[(⟨g,o,none⟩:Addr).block]?)=w.heap[(⟨g,o,none⟩:Addr).block]?:=fun o=>hg.block g h4 fun e=>hr g (by simp [Value.ownBlock]) e.symm
 exact ⟨g,off,c,rfl,h1,h2,h3,Nat.lt_of_lt_of_le h4 hg.size,fun j hj=>(World.cell?_of_block (hb _)).trans (h5 j hj),fun j hj=>by
  have:=h6 j hj
  rw [World.cell?_of_block (hb _),World.frozen?_of_block (hb _)]
  exact this⟩
theorem QO.below {w w':World} {base B:Nat} {v:Value} {xs:List Int} (h:QO w base v xs) (hb:Below B w w') (hB:w.heap.size<=B):QO w' base v xs :=
 h.kept (row:=none) ⟨hb.os,hb.tape,hb.output,hb.size,fun k hk _=>hb.block k (by omega)⟩ (fun _ _ e=>by cases e)
theorem QO.drewN {w:World} {base:Nat} {v:Value} {xs:List Int} (h:QO w base v xs) (n:Nat):QO (w.drewN n) base v xs:=h
theorem QO.alloc {w:World} {base:Nat} {v:Value} {xs:List Int} (h:QO w base v xs) (o:Obj):QO (w.alloc o) base v xs :=
 h.kept (row:=none) (World.grownBy_alloc _ _ _) (fun _ _ e=>by cases e)
theorem QO.form {w:World} {base:Nat} {v:Value} {xs:List Int} (h:QO w base v xs):∃ g off c,v=.slice (some ⟨g,off,none⟩) xs.length c∧xs.length<=c∧base<=g∧g < w.heap.size∧∀ j,j < xs.length->w.cell? ⟨g,off+j,none⟩=some (.int .i64 (Z xs j)):=by
 obtain ⟨g,off,c,e,h1,h2,h3,h4,h5,h6⟩:=h
 exact ⟨g,off,c,e,h1,h3,h4,h5⟩
theorem QO.cut {w:World} {base g off n c:Nat} {x:Int} {xs:List Int} (h:QO w base (.slice (some ⟨g,off,none⟩) n c) (x::xs)):n=xs.length+1∧1<=c ∧
  QO w base (.slice (if c=1 then some ⟨g,off,none⟩ else some ⟨g,off+1,none⟩) xs.length (c - 1)) xs:=by
 obtain ⟨g',off',c',e,h1,h2,h3,h4,h5,h6⟩:=h
 injection e with e1 e2 e3
 injection e1 with e1
 injection e1 with e1 e4 _
 subst e1 e2 e3 e4
 refine ⟨rfl,by simp at h1;omega,?_⟩
 simp only [List.length_cons] at h1 h5
 by_cases hc:c=1
 ·rw [if_pos hc]
  have hx:xs=[]:=List.eq_nil_of_length_eq_zero (by omega)
  subst hx
  exact ⟨g,off,c - 1,rfl,by simp,by omega,h3,h4,fun j hj=>by simp at hj,fun j hj=>by omega⟩
 ·rw [if_neg hc]
  refine ⟨g,off+1,c - 1,rfl,by omega,by omega,h3,h4,fun j hj=>?_,fun j hj=>?_⟩
  ·have:=h5 (j+1) (by omega)
   rw [show off+1+j=off+(j+1) by omega,this]
   simp [Z]
  ·rw [show off+1+j=off+(j+1) by omega]
   exact h6 (j+1) (by omega)
theorem QO.ofIO {w:World} {base:Nat} {g c n:Nat} {xs:List Int} (h:IO w base (.slice (some ⟨g,0,none⟩) n c) xs):QO w base (.slice (some ⟨g,0,none⟩) n c) xs:=by
 have hn:=h.cells.1
 have hl:=owns_lt h g (by simp [Value.ownBlock])
 obtain ⟨-,cs,fz⟩:=h.cells
 subst hn
 have h':=h
 rcases h.2 with ⟨h2,_⟩ | ⟨g',cap,cur,e,hg,hh,h1,h2,h3,h4⟩
 ·cases h2
 ·injection e with e1 e2 e3
  injection e1 with e1
  injection e1 with e1 e4 _
  subst e1 e3
  refine ⟨g,0,c,rfl,h1,h2,hg,hl,fun j hj=>by rw [Nat.zero_add];exact cs j hj,fun j hj=>?_⟩
  rw [Nat.zero_add]
  refine ⟨?_,fz j⟩
  rw [cell_of_row w g j cur _ _ hh,Array.getElem?_eq_getElem (by omega)];rfl
section
variable {w:World}
theorem app_IL {ops:Array Oper} {rest:List Oper} {o:Oper} {a:Act} {Q:Exit->Act->World->Prop} (hgd:o.guard=none) (s x:Operand)
  (ho:o.op=.call { callee:=.builtin .append,args:=#[s,x],argTypes:=#[85,85] })
  (base:Nat) (v:Value) (xs:List Int) (y:Int) (B:Nat) (hs:a.eval s=v) (hown:IO w base v xs) (hx:a.eval x=.slice (some ⟨B,0,none⟩) 1 1)
  (hB:w.heap[B]?=some (.cells #[.int .i64 y] 3 (0,0))) (hlen:xs.length<=1000000000000) (hbase:base<=w.heap.size)
  (h:∀ g cap w',IO w' base (.slice (some ⟨g,0,none⟩) (xs.length+1) cap) (xs++[y])->w.grownBy w' v.ownBlock->(v.ownBlock=some g∨w.heap.size<=g)->wpList Tryz.prog ops Q rest (a.put o.dst (.slice (some ⟨g,0,none⟩) (xs.length+1) cap)) w') :
  wpList Tryz.prog ops Q (o::rest) a w:=by
 obtain ⟨i0,hi,hz0,hz1,hz2⟩:=info_parts infoI
 refine wpList_append_lies w hgd s x _ ho base 3 i0 _ 1 8 Tryz.underlying85 hi hz0 hz1 hz2 rfl (by decide) v xs.length _ hs hown
  ⟨B,0,none⟩ 1 1 [.int .i64 y] hx rfl (World.news_of_block (cs:=#[.int .i64 y]) hB) (by simp [Value.oneCell']) (by decide) (by simp only [maxLen];omega) (by omega) hbase _ rfl ?_
 intro g cap w' h1 h2 h3 _
 exact h g cap w' (by simpa [IO] using h1) h2 (h3.imp id fun e=>by omega)
theorem app_Q {ops:Array Oper} {rest:List Oper} {o:Oper} {a:Act} {Q:Exit->Act->World->Prop} (hgd:o.guard=none) (s x:Operand)
  (ho:o.op=.call { callee:=.builtin .append,args:=#[s,x],argTypes:=#[85,85] })
  (base:Nat) (v:Value) (xs:List Int) (y:Int) (B:Nat) (hs:a.eval s=v) (hown:QO w base v xs) (hx:a.eval x=.slice (some ⟨B,0,none⟩) 1 1)
  (hB:w.heap[B]?=some (.cells #[.int .i64 y] 3 (0,0))) (hlen:xs.length<=1000000000000) (hbase:base<=w.heap.size)
  (h:∀ g off cap w',QO w' base (.slice (some ⟨g,off,none⟩) (xs.length+1) cap) (xs++[y])->w.grownBy w' v.ownBlock->(v.ownBlock=some g∨w.heap.size<=g)->wpList Tryz.prog ops Q rest (a.put o.dst (.slice (some ⟨g,off,none⟩) (xs.length+1) cap)) w') :
  wpList Tryz.prog ops Q (o::rest) a w:=by
 obtain ⟨i0,hi,hz0,hz1,hz2⟩:=info_parts infoI
 obtain ⟨g,off,c,rfl,h1,h2,h3,h4,h5,h6⟩:=hown
 have holds:∀ j u,(xs.map (Value.int .i64))[j]?=some u->w.cell? ⟨g,off+j,none⟩=some u:=by
  intro j u hj
  have hjl:j < xs.length:=by have:=(List.getElem?_eq_some_iff.1 hj).1;simpa using this
  rw [h5 j hjl,<- hj]
  simp [Z,hjl]
 refine wpList_append_arg w hgd s x _ ho 3 i0 (.int .i64 0) 1 8 Tryz.underlying85 hi hz0 hz1 hz2 rfl (by decide) g off xs.length c (xs.map (Value.int .i64)) hs (by simp) holds
  ⟨B,0,none⟩ 1 1 [.int .i64 y] hx rfl (World.news_of_block (cs:=#[.int .i64 y]) hB) (by simp [Value.oneCell']) (fun hr j hj=>?_) (by simp only [maxLen];omega) (by omega) (fun hr=>?_) (fun hr v' w' ho2 hg2=>?_)
 ·simp only [List.length_singleton] at hj
  obtain rfl:j=0:=by omega
  rw [Nat.mul_one,Nat.add_zero]
  exact h6 _ (by omega)
 ·have es:w.setCells g (off+xs.length * 1) [.int .i64 y]=w.setCell ⟨g,off+xs.length,none⟩ (.int .i64 y):=by rw [Nat.mul_one];rfl
  rw [es]
  refine h g off c _ ⟨g,off,c,by simp,by simp;omega,h2,h3,by simp [World.setCell];exact h4,fun j hj=>?_,fun j hj=>?_⟩ (grownBy_set w g _ _) (.inl (by simp [Value.ownBlock]))
  ·by_cases e:j=xs.length
   ·subst e
    rw [World.cell?_setCell_same' w _ _ (h6 xs.length (by omega)).1]
    simp [Z]
   ·have hj2:j < xs.length:=by simp at hj;omega
    rw [World.cell?_setCell_other (w:=w) (v:=.int .i64 y) (a:=⟨g,off+xs.length,none⟩) (b:=⟨g,off+j,none⟩) (by intro e2;injection e2;omega),h5 j hj2]
    simp only [Z,List.getD_eq_getElem?_getD,List.getElem?_append_left hj2]
  ·have:=h6 j hj
   refine ⟨?_,by rw [World.frozen?_setCell];exact this.2⟩
   by_cases e:j=xs.length
   ·subst e;rw [World.cell?_setCell_same' w _ _ this.1];rfl
   ·rw [World.cell?_setCell_other (w:=w) (v:=.int .i64 y) (a:=⟨g,off+xs.length,none⟩) (b:=⟨g,off+j,none⟩) (by intro e2;injection e2;omega)];exact this.1
 ·have hio:IO w' w.heap.size v' (xs++[y]):=by simpa [IO] using ho2
  obtain ⟨b2,c2,rfl⟩:∃ b2 c2,v'=.slice (some ⟨b2,0,none⟩) (xs.length+1) c2:=by
   rcases hio.2 with ⟨_,h0⟩ | ⟨g',cap,cur,rfl,_⟩
   ·simp at h0
   ·exact ⟨g',cap,by simp⟩
  have hb2:=owns_base hio b2 (by simp [Value.ownBlock])
  have hq:=QO.ofIO hio
  obtain ⟨g9,off9,c9,e9,q1,q2,q3,q4,q5,q6⟩:=hq
  have e10:g9=b2:=by injection e9 with e1 _ _;injection e1 with e1;injection e1 with e1 _ _;exact e1.symm
  exact h b2 0 c2 w' ⟨g9,off9,c9,e9,q1,q2,by omega,q4,q5,q6⟩ ⟨hg2.os,hg2.tape,hg2.output,hg2.size,fun k hk _=>hg2.block k hk (by simp)⟩ (.inr hb2)
end
end
section
attribute [local go_sem ↓] Go.wp_at_zero Go.wp_at_succ
def rowK (L:List (Int×Int)) (t k:Nat):List Int:=rrRow L t++backR (rrLf L t) (rrB L t)++newC L t k
theorem rowK_all (L:List (Int×Int)) (t:Nat):rowK L t L.length=rrQ L t:=rfl
theorem rowK_yes {L:List (Int×Int)} {t k:Nat} (h:X L k=t):rowK L t (k+1)=rowK L t k++[(k:Int)]:=by simp only [rowK,newC,if_pos h,List.append_assoc]
theorem rowK_no {L:List (Int×Int)} {t k:Nat} (h:X L k≠t):rowK L t (k+1)=rowK L t k:=by simp only [rowK,newC,if_neg h]
theorem rowK_zero {L:List (Int×Int)} {t:Nat} {b:Int} (e:rrB L t=b) (h:0<=b∧0 < Z (rrLf L t) b.toNat):rowK L t 0=rrRow L t++[b]:=by simp [rowK,newC,backR,e,h]
theorem rowK_zero' {L:List (Int×Int)} {t:Nat} (h:¬ (0<=rrB L t∧0 < Z (rrLf L t) (rrB L t).toNat)):rowK L t 0=rrRow L t:=by simp only [rowK,newC,backR,if_neg h,List.append_nil]
theorem rrB_cases {L:List (Int×Int)} (hc:cOk L=true) (t:Nat):rrB L t=-1∨∃ p:Nat,rrB L t=p∧p < L.length:=by
 cases t with
 | zero=>exact .inl rfl
 | succ t =>
  obtain ⟨inv,_,hm⟩:=rr_inv hc t
  rcases rr_picks inv hm with ⟨e,_⟩ | ⟨p,e,hp,_⟩
  ·exact .inl e
  ·exact .inr ⟨p,e,hp⟩
theorem rrRow_len {L:List (Int×Int)} (hc:cOk L=true) (t:Nat):(rrRow L t).length<=8:=by
 cases t with
 | zero=>simp [rrRow,rrS]
 | succ t=>rw [rrRow_succ,List.length_tail];have:=rrQ_len hc t;omega
theorem rowK_len {L:List (Int×Int)} (hc:cOk L=true) (t k:Nat) (hk:k<=L.length):(rowK L t k).length<=30:=by
 have a:=rrRow_len hc t
 have b:=newC_len L t k
 have c:=cOk_len hc
 have d:(backR (rrLf L t) (rrB L t)).length<=1:=by unfold backR;split <;> simp
 simp only [rowK,List.length_append];omega
theorem c_sRoundOrder (L:List (Int×Int)) (A:Option Addr) (c:Nat) (w:World) (hA:Cs w w.heap.size A L) (hn:L.length<=140737488351232) :
  Calls Tryz.prog 70 #[.slice A L.length c] w fun e w'=>∃ v,e=.returned v∧IO w' w.heap.size v (roundR L)∧Below w.heap.size w w':=by
 have hbz:Below w.heap.size w (w.alloc (.cells #[] 3)):=by (repeat (first | exact rfl | exact Below.refl _ _ | (with_reducible refine Below.drew ?_) | (with_reducible refine Below.drewN ?_ _) | (with_reducible refine Below.alloc ?_ ?_ _) | (with_reducible refine Below.setCell ?_ ?_ _) | (show _<=_;focus (first | omega | (simp;done) | (simp;omega)))))
 have own0:=IO.empty w (Nat.le_refl w.heap.size)
 have HK:=Lib.hid (c_sCustomersOk L A c _ ((hA.below hbz).more hbz.size) hn)
 cases hok:cOk L with
 | false =>
  rw [hok] at HK
  have HV:=Lib.hid (roundR_no hok)
  clear hok
  go_enter Tryz.func70,Tryz.ntmps70
  go_wp2_with fail
  refine HK.out.mono ?_
  rintro e w1 ⟨rfl,hb1⟩
  have own1:=own0.below hb1 (Nat.le_refl _)
  have hbx:=hbz.trans (hb1.mono hbz.size)
  go_wp2_with fail
  go_ret
  exact ⟨_,rfl,by rw [HV.out];exact own1,hbx⟩
 | true =>
  rw [hok] at HK
  obtain ⟨T,hT,hT2⟩:=lastLeave_nat hok
  have HV:=Lib.hid (roundR_yes hok hT)
  have HLL:=Lib.hid (fun W hW=>show Calls Tryz.prog 120 #[.slice A L.length c] W fun e w'=>e=.returned (.int .i64 (T:Int))∧Below W.heap.size W w' from by
   have K:=c_sLastLeave L A c W hW hn
   rw [hT] at K
   exact K)
  have hlen:=cOk_len hok
  have HXY:=Lib.hid (fun k (hk:k < L.length)=>cOk_bd hok hk)
  have HInv:=Lib.hid (rr_inv hok)
  have HBC:=Lib.hid (rrB_cases hok)
  have HKl:=Lib.hid (fun t k (hk:k<=L.length)=>rowK_len hok t k hk)
  have HNZ:=Lib.hid (fun k (hk:k < L.length)=>needs_Z (L:=L) hk)
  have HNl:=Lib.hid (needs_len L)
  clear hok hT
  go_enter Tryz.func70,Tryz.ntmps70
  go_wp2_with fail
  refine HK.out.mono ?_
  rintro e w1 ⟨rfl,hb1⟩
  have own1:=own0.below hb1 (Nat.le_refl _)
  have hbx:=hbz.trans (hb1.mono hbz.size)
  have hz1:w.heap.size+1<=w1.heap.size:=by have:=hb1.size;simp at this;omega
  have left0:=IO.empty w1 hz1
  have out0:=own1.alloc (.cells #[] 3)
  have hb2:=hbx.alloc (by omega) (.cells #[] 3)
  clear HK own0 hbz hb1 own1 hbx
  go_wp2_with fail
  go_loopw [4,5] (fun l i wr=>∃ k bl cl:Nat,k<=L.length∧i=.int .i64 (k:Int)∧l=.slice (some ⟨bl,0,none⟩) k cl∧IO wr (w.heap.size+1) (.slice (some ⟨bl,0,none⟩) k cl) ((needs L).take k)∧IO wr w.heap.size (.slice (some ⟨w.heap.size,0,none⟩) 0 0) []∧Below w.heap.size w wr∧w.heap.size+1<=wr.heap.size) (fun _ i _=>L.length - (intOf i).toNat)
  case atStart=>exact ⟨0,_,_,by omega,rfl,rfl,left0,out0,hb2,by simp;omega⟩
  case round =>
   obtain ⟨k,bl,cl,hk,rfl,rfl,hleft,hout,hb,hz⟩:=hrel
   have hsz:=hb.size
   by_cases hlt:k < L.length
   ·obtain ⟨b,off,rfl,hlb,hc⟩:=hA (by omega)
    have c1:=(hb.cell (p:=⟨b,off+k * 2+1,none⟩) hlb).trans (hc k hlt).2
    have p1:(0:Int)<=(k:Int):=by omega
    have p2:(k:Int) < (L.length:Int):=by omega
    have HS:=Lib.hid (show (needs L).take (k+1)=(needs L).take k++[Y L k] from by
     rw [List.take_succ_eq_append_getElem (by rw [needs_len];exact hlt)]
     simp [needs,Y,hlt])
    have hle:((needs L).take k).length=k:=by rw [List.length_take,HNl.out];omega
    have q5:((needs L).take k).length<=1000000000000:=by omega
    have HLE:=Lib.hid hle
    have hob:=owns_base hleft bl (by simp [Value.ownBlock])
    clear hc hle
    go_wp2_with (refine app_IL ?_ (.tmp 22) (.tmp 28) ?_ (w.heap.size+1) (.slice (some ⟨bl,0,none⟩) k cl) ((needs L).take k) (Y L k) wr.heap.size ?_ ?_ ?_ ?_ ?_ ?_ ?_;rfl;rfl;rfl;exact (hleft.alloc _);rfl;exact (heap_alloc_new _ _);exact q5;exact (Nat.le_trans hz (by simp));intro g7 cap w7 hown7 hgr7 hor7)
    have hout7:=(hout.alloc (.cells #[.int .i64 (Y L k)] 3)).grownR' hgr7 (fun r e e2=>by
     have h3:r=w.heap.size:=by simpa [Value.ownBlock] using e.symm
     have h4:bl=r:=by simpa [Value.ownBlock] using e2
     omega)
    have hb7:Below w.heap.size w w7:=(hb.alloc hsz _).grown hgr7 (by simp;omega) (fun r e=>by
     have h4:bl=r:=by simpa [Value.ownBlock] using e
     omega)
    have hz7:w.heap.size+1<=w7.heap.size:=by have:=hgr7.size;simp at this;omega
    rw [HLE.out] at hown7
    go_roundw
    case rel=>exact ⟨k+1,g7,cap,by omega,by go_num,by rw [HNl.out,Nat.min_eq_left hk],by rw [HS.out];exact hown7,hout7,hb7,hz7⟩
    case measure=>simp [intOf];omega
   ·have hlf:¬ ((k:Int) < (L.length:Int)):=by omega
    obtain rfl:k=L.length:=by omega
    rw [List.take_of_length_le (by rw [HNl.out];omega)] at hleft
    have hob:=owns_base hleft bl (by simp [Value.ownBlock])
    have hlb9:=owns_lt hleft bl (by simp [Value.ownBlock])
    have row0:=QO.empty wr hsz
    have left1:=(hleft.alloc (.cells #[] 3)).mono (show w.heap.size<=w.heap.size+1 by omega)
    have out1:=hout.alloc (.cells #[] 3)
    have hb3:=hb.alloc hsz (.cells #[] 3)
    clear hleft hout hb
    go_wp2_with fail
    go_loopw [3,6,7,8] (fun o r b i wx=>∃ t bo co br off cr:Nat,t<=T∧i=.int .i64 (t:Int)∧o=.slice (some ⟨bo,0,none⟩) t co∧IO wx w.heap.size (.slice (some ⟨bo,0,none⟩) t co) (rrO L t)∧IO wx w.heap.size (.slice (some ⟨bl,0,none⟩) L.length cl) (rrLf L t)∧r=.slice (some ⟨br,off,none⟩) (rrRow L t).length cr∧QO wx w.heap.size (.slice (some ⟨br,off,none⟩) (rrRow L t).length cr) (rrRow L t)∧b=.int .i64 (rrB L t)∧(bo≠bl∧bo≠br∧bl≠br)∧Below w.heap.size w wx) (fun _ _ _ i _=>T - (intOf i).toNat)
    case atStart=>exact ⟨0,_,_,_,_,_,by omega,rfl,rfl,out1,left1,rfl,row0,rfl,by omega,hb3⟩
    case round =>
     clear row0 left1 out1 hb3
     obtain ⟨t,bo,co,br,off9,cr,ht,rfl,rfl,hout,hleft,rfl,hrow,rfl,hne,hb⟩:=hrel
     have hsz:=hb.size
     go_wp2_with fail
     refine (HLL.out _ ((hA.below hb).more hsz)).mono ?_
     rintro e w5 ⟨rfl,hb5⟩
     have hout5:=hout.below hb5 (Nat.le_refl _)
     have hleft5:=hleft.below hb5 (Nat.le_refl _)
     have hrow5:=hrow.below hb5 (Nat.le_refl _)
     have hb6:=hb.trans (hb5.mono hsz)
     clear hout hleft hrow hb hb5 hsz
     have hsz:=hb6.size
     by_cases hlt:t < T
     ·have p1:(t:Int) < (T:Int):=by omega
      have hl9:=HKl.out t
      have hrl:(rrRow L t).length<=30:=by
       have:=hl9 0 (by omega)
       simp only [rowK,List.length_append] at this;omega
      rcases HBC.out t with eb | ⟨p,eb,hp⟩
      ·have hb9:¬ (0<=rrB L t∧0 < Z (rrLf L t) (rrB L t).toNat):=by rw [eb];omega
       have HZ:=Lib.hid (rowK_zero' hb9)
       rw [eb]
       clear hb9 eb hl9 hrl
       go_wp2_with fail
       have hrow7:QO w5 w.heap.size (.slice (some ⟨br,off9,none⟩) (rowK L t 0).length cr) (rowK L t 0):=by rw [HZ.out];exact hrow5
       have HL0:=Lib.hid (show (rrRow L t).length=(rowK L t 0).length by rw [HZ.out])
       rw [HL0.out]
       clear hrow5
       go_loopw [6,9] (fun r i wx=>∃ k br off cr:Nat,k<=L.length∧i=.int .i64 (k:Int)∧r=.slice (some ⟨br,off,none⟩) (rowK L t k).length cr∧QO wx w.heap.size (.slice (some ⟨br,off,none⟩) (rowK L t k).length cr) (rowK L t k)∧IO wx w.heap.size (.slice (some ⟨bo,0,none⟩) t co) (rrO L t)∧IO wx w.heap.size (.slice (some ⟨bl,0,none⟩) L.length cl) (rrLf L t)∧(bo≠bl∧bo≠br∧bl≠br)∧Below w.heap.size w wx) (fun _ i _=>L.length - (intOf i).toNat)
       case atStart=>exact ⟨0,br,off9,cr,by omega,rfl,rfl,hrow7,hout5,hleft5,hne,hb6⟩
       case round =>
        clear hout5 hleft5 hrow7 hne hb6
        obtain ⟨k,br,off,cr,hk,rfl,rfl,hrow,hout,hleft,hne,hb⟩:=hrel
        have hsz:=hb.size
        have hlo:=owns_lt hout bo (by simp [Value.ownBlock])
        have hll:=owns_lt hleft bl (by simp [Value.ownBlock])
        have hbo:=owns_base hout bo (by simp [Value.ownBlock])
        have hbl:=owns_base hleft bl (by simp [Value.ownBlock])
        have hobr:w.heap.size<=br:=by obtain ⟨g9,o9,c9,e9,-,h9,-⟩:=hrow.form;injection e9 with e8 _ _;injection e8 with e8;injection e8 with e8 _ _;omega
        by_cases hkl:k < L.length
        ·obtain ⟨b,off2,rfl,hlb,hc⟩:=hA (by omega)
         have c1:=(hb.cell (p:=⟨b,off2+k * 2,none⟩) hlb).trans (hc k hkl).1
         have z1:(0:Int)<=(k:Int):=by omega
         have z2:(k:Int) < (L.length:Int):=by omega
         clear hc
         by_cases hx:X L k=(t:Int)
         ·have dx:(X L k == (t:Int))=true:=beq_iff_eq.2 hx
          have HS:=Lib.hid (rowK_yes hx)
          have q5:(rowK L t k).length<=1000000000000:=by have:=HKl.out t k hk;omega
          clear hx
          go_wp2_with (refine app_Q ?_ (.tmp 63) (.tmp 65) ?_ w.heap.size (.slice (some ⟨br,off,none⟩) (rowK L t k).length cr) (rowK L t k) (k:Int) wr.heap.size ?_ ?_ ?_ ?_ ?_ ?_ ?_;rfl;rfl;rfl;exact (hrow.alloc _);rfl;exact (heap_alloc_new _ _);exact q5;exact (Nat.le_trans hsz (by simp));intro g8 off8 cap8 w8 hown8 hgr8 hor8)
          have hout8:=(hout.alloc (.cells #[.int .i64 (k:Int)] 3)).grownR' hgr8 (fun r e e2=>by
           have h3:bo=r:=by simpa [Value.ownBlock] using e
           have h4:br=r:=by simpa [Value.ownBlock] using e2
           omega)
          have hleft8:=(hleft.alloc (.cells #[.int .i64 (k:Int)] 3)).grownR' hgr8 (fun r e e2=>by
           have h3:bl=r:=by simpa [Value.ownBlock] using e
           have h4:br=r:=by simpa [Value.ownBlock] using e2
           omega)
          have hb8:Below w.heap.size w w8:=(hb.alloc hsz _).grown hgr8 (by simp;omega) (fun r e=>by
           have h4:br=r:=by simpa [Value.ownBlock] using e
           omega)
          have hne8:bo≠bl∧bo≠g8∧bl≠g8:=by
           rcases hor8 with h | h
           ·have h4:br=g8:=by simpa [Value.ownBlock] using h
            omega
           ·simp at h;omega
          have hlk:(rowK L t (k+1)).length=(rowK L t k).length+1:=by rw [HS.out];simp
          have HLK:=Lib.hid hlk
          clear hlk
          go_roundw
          case rel=>exact ⟨k+1,g8,off8,cap8,by omega,by go_num,by rw [HLK.out],by rw [HLK.out,HS.out];exact hown8,hout8,hleft8,hne8,hb8⟩
          case measure=>simp [intOf];omega
         ·have dx:(X L k == (t:Int))=false:=beq_eq_false_iff_ne.2 hx
          have HS:=Lib.hid (rowK_no hx)
          clear hx
          go_wp2_with fail
          go_roundw
          case rel=>exact ⟨k+1,br,off,cr,by omega,by go_num,by rw [HS.out],by rw [HS.out];exact hrow,hout,hleft,hne,hb⟩
          case measure=>simp [intOf];omega
        ·have hlf:¬ ((k:Int) < (L.length:Int)):=by omega
         obtain rfl:k=L.length:=by omega
         obtain ⟨inv,hnd,hmem⟩:=HInv.out t
         have hql:=HKl.out t L.length (Nat.le_refl _)
         rw [rowK_all] at hrow hql ⊢
         have HO:=Lib.hid (show rrO L (t+1)=rrO L t++[rrW L t] from ordF_succ _ _)
         have hol:(rrO L t).length=t:=ordF_len _ _
         have q5:(rrO L t).length<=1000000000000:=by rw [hol];omega
         have HOL:=Lib.hid hol
         clear hol
         cases hq:rrQ L t with
         | nil =>
          have hw:rrW L t=-1:=by simp [rrW,hq]
          have HW:=Lib.hid hw
          have HLf:=Lib.hid (show rrLf L (t+1)=rrLf L t by rw [rrLf_succ,hw];simp [stepL])
          have HRo:=Lib.hid (show rrRow L (t+1)=[] by rw [rrRow_succ,hq];rfl)
          rw [hq] at hrow
          have hl0:(([]:List Int).length:Int)=0:=rfl
          clear hq inv hnd hmem hql hw
          go_wp2_with (refine app_IL ?_ (.tmp 83) (.tmp 85) ?_ w.heap.size (.slice (some ⟨bo,0,none⟩) t co) (rrO L t) (-1) wr.heap.size ?_ ?_ ?_ ?_ ?_ ?_ ?_;rfl;rfl;rfl;exact (hout.alloc _);rfl;exact (heap_alloc_new _ _);exact q5;exact (Nat.le_trans hsz (by simp));intro g8 cap8 w8 hown8 hgr8 hor8)
          have hrow8:=(hrow.alloc (.cells #[.int .i64 (-1)] 3)).kept hgr8 (fun r e e2=>by
           have h3:br=r:=by simpa [Value.ownBlock] using e
           have h4:bo=r:=by simpa [Value.ownBlock] using e2
           omega)
          have hleft8:=(hleft.alloc (.cells #[.int .i64 (-1)] 3)).grownR' hgr8 (fun r e e2=>by
           have h3:bl=r:=by simpa [Value.ownBlock] using e
           have h4:bo=r:=by simpa [Value.ownBlock] using e2
           omega)
          have hlr:br < wr.heap.size:=by obtain ⟨g9,o9,c9,e9,-,-,h9,-⟩:=hrow.form;injection e9 with e8 _ _;injection e8 with e8;injection e8 with e8 _ _;omega
          have hb8:Below w.heap.size w w8:=(hb.alloc hsz _).grown hgr8 (by simp;omega) (fun r e=>by
           have h4:bo=r:=by simpa [Value.ownBlock] using e
           omega)
          have hne8:g8≠bl∧g8≠br∧bl≠br:=by
           rcases hor8 with h | h
           ·have h4:bo=g8:=by simpa [Value.ownBlock] using h
            omega
           ·simp at h;omega
          rw [HOL.out] at hown8
          go_roundw
          case rel=>exact ⟨t+1,g8,cap8,br,off,cr,by omega,by go_num,by rw [HOL.out],by rw [HO.out,HW.out];exact hown8,by rw [HLf.out];exact hleft8,by rw [HRo.out];rfl,by rw [HRo.out];exact hrow8,by rw [rrB_succ,HW.out],hne8,hb8⟩
          case measure=>simp [intOf];omega
         | cons w0 r0 =>
          obtain ⟨p0,rfl,hp0,hx0,hz0⟩:=(hmem w0).1 (by rw [hq];simp)
          have hw:rrW L t=(p0:Int):=by simp [rrW,hq]
          have HW:=Lib.hid hw
          have hrg:=inv.rng p0 hp0
          have hYb:=HXY.out p0 hp0
          have HLf:=Lib.hid (show rrLf L (t+1)=(rrLf L t).set p0 (Z (rrLf L t) p0 - 1) by rw [rrLf_succ,hw];simp [stepL])
          have HRo:=Lib.hid (show rrRow L (t+1)=r0 by rw [rrRow_succ,hq];rfl)
          rw [hq] at hrow hql
          have hcut:=hrow.cut
          obtain ⟨g9,o9,c9,e9,h90,h91,h92,h93⟩:=hrow.form
          have e10:g9=br∧o9=off:=by injection e9 with e8 _ _;injection e8 with e8;injection e8 with e8 e7 _;exact ⟨e8.symm,e7.symm⟩
          have c0:=h93 0 (by simp)
          rw [e10.1,e10.2,Nat.add_zero] at c0
          rw [show Z ((p0:Int)::r0) 0=(p0:Int) from rfl] at c0
          obtain ⟨-,hcr1,hcut⟩:=hcut
          obtain ⟨-,cs,fz⟩:=hleft.cells
          have cp:=cs p0 hp0
          have fp:=fz p0
          have HST:=Lib.hid (hleft.store p0 (Z (rrLf L t) p0 - 1))
          have hl1:(((p0:Int)::r0).length:Int)=(r0.length:Int)+1:=by simp
          have hl2:((p0:Int)::r0).length=r0.length+1:=by simp
          have d1:decide ((0:Int) < (r0.length:Int)+1)=true:=decide_eq_true (by omega)
          have z1:(0:Int)<=(p0:Int):=by omega
          have z2:(p0:Int) < (L.length:Int):=by omega
          have z3:(1:Int)<=(r0.length:Int)+1:=by omega
          obtain ⟨Q1,hQ1⟩:∃ Q1,(if cr=1 then some (⟨br,off,none⟩:Addr) else some ⟨br,off+1,none⟩)=Q1:=⟨_,rfl⟩
          rw [hQ1] at hcut
          have z4:r0.length+1<=cr:=by rw [<- hl2];injection e9 with _ _ e8;omega
          rw [hl2]
          have hzb:Z (rrLf L t) p0<=9:=by omega
          have hlr:br < wr.heap.size:=by rw [<- e10.1];exact h92
          obtain ⟨W2,hW2⟩:∃ W2,wr.setCell ⟨bl,p0,none⟩ (.int .i64 (Z (rrLf L t) p0 - 1))=W2:=⟨_,rfl⟩
          have hgs:wr.grownBy W2 (some bl):=by rw [<- hW2];exact grownBy_set wr bl p0 _
          have hs2:W2.heap.size=wr.heap.size:=by rw [<- hW2];simp [World.setCell]
          have hout2:IO W2 w.heap.size (.slice (some ⟨bo,0,none⟩) t co) (rrO L t):=hout.grownR' hgs (fun r e e2=>by
           have h3:bo=r:=by simpa [Value.ownBlock] using e
           have h4:bl=r:=by simpa using e2
           omega)
          have hleft2:IO W2 w.heap.size (.slice (some ⟨bl,0,none⟩) L.length cl) (rrLf L (t+1)):=by rw [<- hW2,HLf.out];exact HST.out
          have hrow2:QO W2 w.heap.size (.slice Q1 r0.length (cr - 1)) r0:=hcut.kept hgs (fun r e e2=>by
           have h4:bl=r:=by simpa using e2
           have h3:br=r:=by
            rw [<- hQ1] at e
            split at e <;> simpa [Value.ownBlock] using e
           omega)
          have hb2:Below w.heap.size w W2:=hb.grown hgs hsz (fun r e=>by
           have h4:bl=r:=by simpa using e
           omega)
          have HS2:=Lib.hid hs2
          have hb3s:w.heap.size<=W2.heap.size:=hb2.size
          have HQ:=Lib.hid (show ∃ off',Q1=some ⟨br,off',none⟩ by rw [<- hQ1];split <;> exact ⟨_,rfl⟩)
          clear hs2 hq inv hnd hmem hql hw hrg e9 h90 h91 h92 h93 e10 cs fz hl1 hl2 hcut HST hgs hrow hleft hout hb
          go_wp2_with (refine app_IL ?_ (.tmp 83) (.tmp 85) ?_ w.heap.size (.slice (some ⟨bo,0,none⟩) t co) (rrO L t) (p0:Int) W2.heap.size ?_ ?_ ?_ ?_ ?_ ?_ ?_;rfl;rfl;rfl;exact (hout2.alloc _);rfl;exact (heap_alloc_new _ _);exact q5;exact (Nat.le_trans hb3s (by simp));intro g8 cap8 w8 hown8 hgr8 hor8)
          have hrow8:=(hrow2.alloc (.cells #[.int .i64 (p0:Int)] 3)).kept hgr8 (fun r e e2=>by
           have h3:br=r:=by
            rw [<- hQ1] at e
            split at e <;> simpa [Value.ownBlock] using e
           have h4:bo=r:=by simpa [Value.ownBlock] using e2
           omega)
          have hleft8:=(hleft2.alloc (.cells #[.int .i64 (p0:Int)] 3)).grownR' hgr8 (fun r e e2=>by
           have h3:bl=r:=by simpa [Value.ownBlock] using e
           have h4:bo=r:=by simpa [Value.ownBlock] using e2
           omega)
          have hb8:Below w.heap.size w w8:=(hb2.alloc hb3s _).grown hgr8 (by simp;omega) (fun r e=>by
           have h4:bo=r:=by simpa [Value.ownBlock] using e
           omega)
          have hne8:g8≠bl∧g8≠br∧bl≠br:=by
           have hs9:=HS2.out
           rcases hor8 with h | h
           ·have h4:bo=g8:=by simpa [Value.ownBlock] using h
            omega
           ·simp at h;omega
          obtain ⟨off',rfl⟩:=HQ.out
          rw [HOL.out] at hown8
          go_roundw
          case rel=>exact ⟨t+1,g8,cap8,br,off',cr - 1,by omega,by go_num,by rw [HOL.out],by rw [HO.out,HW.out];exact hown8,hleft8,by rw [HRo.out],by rw [HRo.out];exact hrow8,by rw [rrB_succ,HW.out],hne8,hb8⟩
          case measure=>simp [intOf];omega
      ·have pp1:(0:Int)<=(p:Int):=by omega
       have pp2:(p:Int) < (L.length:Int):=by omega
       obtain ⟨-,cs,-⟩:=hleft5.cells
       have cp:=cs p hp
       clear cs
       by_cases hz0:0 < Z (rrLf L t) p
       ·have dz:decide (0 < Z (rrLf L t) p)=true:=decide_eq_true hz0
        have HZ:=Lib.hid (rowK_zero eb ⟨pp1,by rw [Int.toNat_natCast];exact hz0⟩)
        have q5:(rrRow L t).length<=1000000000000:=by omega
        rw [eb]
        clear hz0 eb hl9 hrl
        go_wp2_with (refine app_Q ?_ (.tmp 46) (.tmp 48) ?_ w.heap.size (.slice (some ⟨br,off9,none⟩) (rrRow L t).length cr) (rrRow L t) (p:Int) w5.heap.size ?_ ?_ ?_ ?_ ?_ ?_ ?_;rfl;rfl;rfl;exact (hrow5.alloc _);rfl;exact (heap_alloc_new _ _);exact q5;exact (Nat.le_trans hsz (by simp));intro g7 off7 cap w7 hown7 hgr7 hor7)
        have hneq:=hne
        have hout7:=(hout5.alloc (.cells #[.int .i64 (p:Int)] 3)).grownR' hgr7 (fun r e e2=>by
         have h3:bo=r:=by simpa [Value.ownBlock] using e
         have h4:br=r:=by simpa [Value.ownBlock] using e2
         omega)
        have hleft7:=(hleft5.alloc (.cells #[.int .i64 (p:Int)] 3)).grownR' hgr7 (fun r e e2=>by
         have h3:bl=r:=by simpa [Value.ownBlock] using e
         have h4:br=r:=by simpa [Value.ownBlock] using e2
         omega)
        have hobr:w.heap.size<=br:=by obtain ⟨g9,o9,c9,e9,-,h9,-⟩:=hrow5.form;injection e9 with e8 _ _;injection e8 with e8;injection e8 with e8 _ _;omega
        have hlo:=owns_lt hout5 bo (by simp [Value.ownBlock])
        have hll:=owns_lt hleft5 bl (by simp [Value.ownBlock])
        have hb7:Below w.heap.size w w7:=(hb6.alloc hsz _).grown hgr7 (by simp;omega) (fun r e=>by
         have h4:br=r:=by simpa [Value.ownBlock] using e
         omega)
        have hne7:bo≠bl∧bo≠g7∧bl≠g7:=by
         rcases hor7 with h | h
         ·have h4:br=g7:=by simpa [Value.ownBlock] using h
          omega
         ·simp at h;omega
        have hrow7:QO w7 w.heap.size (.slice (some ⟨g7,off7,none⟩) (rowK L t 0).length cap) (rowK L t 0):=by rw [HZ.out,List.length_append,List.length_singleton];exact hown7
        have HL0:=Lib.hid (show (rrRow L t).length+1=(rowK L t 0).length by rw [HZ.out,List.length_append,List.length_singleton])
        rw [HL0.out]
        clear hout5 hleft5 hrow5 hown7 hgr7 hor7 hneq hb6 cp dz
        go_loopw [6,9] (fun r i wx=>∃ k br off cr:Nat,k<=L.length∧i=.int .i64 (k:Int)∧r=.slice (some ⟨br,off,none⟩) (rowK L t k).length cr∧QO wx w.heap.size (.slice (some ⟨br,off,none⟩) (rowK L t k).length cr) (rowK L t k)∧IO wx w.heap.size (.slice (some ⟨bo,0,none⟩) t co) (rrO L t)∧IO wx w.heap.size (.slice (some ⟨bl,0,none⟩) L.length cl) (rrLf L t)∧(bo≠bl∧bo≠br∧bl≠br)∧Below w.heap.size w wx) (fun _ i _=>L.length - (intOf i).toNat)
        case atStart=>exact ⟨0,g7,off7,cap,by omega,rfl,rfl,hrow7,hout7,hleft7,hne7,hb7⟩
        case round =>
         clear hout7 hleft7 hrow7 hne7 hb7
         obtain ⟨k,br,off,cr,hk,rfl,rfl,hrow,hout,hleft,hne,hb⟩:=hrel
         have hsz:=hb.size
         have hlo:=owns_lt hout bo (by simp [Value.ownBlock])
         have hll:=owns_lt hleft bl (by simp [Value.ownBlock])
         have hbo:=owns_base hout bo (by simp [Value.ownBlock])
         have hbl:=owns_base hleft bl (by simp [Value.ownBlock])
         have hobr:w.heap.size<=br:=by obtain ⟨g9,o9,c9,e9,-,h9,-⟩:=hrow.form;injection e9 with e8 _ _;injection e8 with e8;injection e8 with e8 _ _;omega
         by_cases hkl:k < L.length
         ·obtain ⟨b,off2,rfl,hlb,hc⟩:=hA (by omega)
          have c1:=(hb.cell (p:=⟨b,off2+k * 2,none⟩) hlb).trans (hc k hkl).1
          have z1:(0:Int)<=(k:Int):=by omega
          have z2:(k:Int) < (L.length:Int):=by omega
          clear hc
          by_cases hx:X L k=(t:Int)
          ·have dx:(X L k == (t:Int))=true:=beq_iff_eq.2 hx
           have HS:=Lib.hid (rowK_yes hx)
           have q5:(rowK L t k).length<=1000000000000:=by have:=HKl.out t k hk;omega
           clear hx
           go_wp2_with (refine app_Q ?_ (.tmp 63) (.tmp 65) ?_ w.heap.size (.slice (some ⟨br,off,none⟩) (rowK L t k).length cr) (rowK L t k) (k:Int) wr.heap.size ?_ ?_ ?_ ?_ ?_ ?_ ?_;rfl;rfl;rfl;exact (hrow.alloc _);rfl;exact (heap_alloc_new _ _);exact q5;exact (Nat.le_trans hsz (by simp));intro g8 off8 cap8 w8 hown8 hgr8 hor8)
           have hout8:=(hout.alloc (.cells #[.int .i64 (k:Int)] 3)).grownR' hgr8 (fun r e e2=>by
            have h3:bo=r:=by simpa [Value.ownBlock] using e
            have h4:br=r:=by simpa [Value.ownBlock] using e2
            omega)
           have hleft8:=(hleft.alloc (.cells #[.int .i64 (k:Int)] 3)).grownR' hgr8 (fun r e e2=>by
            have h3:bl=r:=by simpa [Value.ownBlock] using e
            have h4:br=r:=by simpa [Value.ownBlock] using e2
            omega)
           have hb8:Below w.heap.size w w8:=(hb.alloc hsz _).grown hgr8 (by simp;omega) (fun r e=>by
            have h4:br=r:=by simpa [Value.ownBlock] using e
            omega)
           have hne8:bo≠bl∧bo≠g8∧bl≠g8:=by
            rcases hor8 with h | h
            ·have h4:br=g8:=by simpa [Value.ownBlock] using h
             omega
            ·simp at h;omega
           have hlk:(rowK L t (k+1)).length=(rowK L t k).length+1:=by rw [HS.out];simp
           have HLK:=Lib.hid hlk
           clear hlk
           go_roundw
           case rel=>exact ⟨k+1,g8,off8,cap8,by omega,by go_num,by rw [HLK.out],by rw [HLK.out,HS.out];exact hown8,hout8,hleft8,hne8,hb8⟩
           case measure=>simp [intOf];omega
          ·have dx:(X L k == (t:Int))=false:=beq_eq_false_iff_ne.2 hx
           have HS:=Lib.hid (rowK_no hx)
           clear hx
           go_wp2_with fail
           go_roundw
           case rel=>exact ⟨k+1,br,off,cr,by omega,by go_num,by rw [HS.out],by rw [HS.out];exact hrow,hout,hleft,hne,hb⟩
           case measure=>simp [intOf];omega
         ·have hlf:¬ ((k:Int) < (L.length:Int)):=by omega
          obtain rfl:k=L.length:=by omega
          obtain ⟨inv,hnd,hmem⟩:=HInv.out t
          have hql:=HKl.out t L.length (Nat.le_refl _)
          rw [rowK_all] at hrow hql ⊢
          have HO:=Lib.hid (show rrO L (t+1)=rrO L t++[rrW L t] from ordF_succ _ _)
          have hol:(rrO L t).length=t:=ordF_len _ _
          have q5:(rrO L t).length<=1000000000000:=by rw [hol];omega
          have HOL:=Lib.hid hol
          clear hol
          cases hq:rrQ L t with
          | nil =>
           have hw:rrW L t=-1:=by simp [rrW,hq]
           have HW:=Lib.hid hw
           have HLf:=Lib.hid (show rrLf L (t+1)=rrLf L t by rw [rrLf_succ,hw];simp [stepL])
           have HRo:=Lib.hid (show rrRow L (t+1)=[] by rw [rrRow_succ,hq];rfl)
           rw [hq] at hrow
           have hl0:(([]:List Int).length:Int)=0:=rfl
           clear hq inv hnd hmem hql hw
           go_wp2_with (refine app_IL ?_ (.tmp 83) (.tmp 85) ?_ w.heap.size (.slice (some ⟨bo,0,none⟩) t co) (rrO L t) (-1) wr.heap.size ?_ ?_ ?_ ?_ ?_ ?_ ?_;rfl;rfl;rfl;exact (hout.alloc _);rfl;exact (heap_alloc_new _ _);exact q5;exact (Nat.le_trans hsz (by simp));intro g8 cap8 w8 hown8 hgr8 hor8)
           have hrow8:=(hrow.alloc (.cells #[.int .i64 (-1)] 3)).kept hgr8 (fun r e e2=>by
            have h3:br=r:=by simpa [Value.ownBlock] using e
            have h4:bo=r:=by simpa [Value.ownBlock] using e2
            omega)
           have hleft8:=(hleft.alloc (.cells #[.int .i64 (-1)] 3)).grownR' hgr8 (fun r e e2=>by
            have h3:bl=r:=by simpa [Value.ownBlock] using e
            have h4:bo=r:=by simpa [Value.ownBlock] using e2
            omega)
           have hlr:br < wr.heap.size:=by obtain ⟨g9,o9,c9,e9,-,-,h9,-⟩:=hrow.form;injection e9 with e8 _ _;injection e8 with e8;injection e8 with e8 _ _;omega
           have hb8:Below w.heap.size w w8:=(hb.alloc hsz _).grown hgr8 (by simp;omega) (fun r e=>by
            have h4:bo=r:=by simpa [Value.ownBlock] using e
            omega)
           have hne8:g8≠bl∧g8≠br∧bl≠br:=by
            rcases hor8 with h | h
            ·have h4:bo=g8:=by simpa [Value.ownBlock] using h
             omega
            ·simp at h;omega
           rw [HOL.out] at hown8
           go_roundw
           case rel=>exact ⟨t+1,g8,cap8,br,off,cr,by omega,by go_num,by rw [HOL.out],by rw [HO.out,HW.out];exact hown8,by rw [HLf.out];exact hleft8,by rw [HRo.out];rfl,by rw [HRo.out];exact hrow8,by rw [rrB_succ,HW.out],hne8,hb8⟩
           case measure=>simp [intOf];omega
          | cons w0 r0 =>
           obtain ⟨p0,rfl,hp0,hx0,hz0⟩:=(hmem w0).1 (by rw [hq];simp)
           have hw:rrW L t=(p0:Int):=by simp [rrW,hq]
           have HW:=Lib.hid hw
           have hrg:=inv.rng p0 hp0
           have hYb:=HXY.out p0 hp0
           have HLf:=Lib.hid (show rrLf L (t+1)=(rrLf L t).set p0 (Z (rrLf L t) p0 - 1) by rw [rrLf_succ,hw];simp [stepL])
           have HRo:=Lib.hid (show rrRow L (t+1)=r0 by rw [rrRow_succ,hq];rfl)
           rw [hq] at hrow hql
           have hcut:=hrow.cut
           obtain ⟨g9,o9,c9,e9,h90,h91,h92,h93⟩:=hrow.form
           have e10:g9=br∧o9=off:=by injection e9 with e8 _ _;injection e8 with e8;injection e8 with e8 e7 _;exact ⟨e8.symm,e7.symm⟩
           have c0:=h93 0 (by simp)
           rw [e10.1,e10.2,Nat.add_zero] at c0
           rw [show Z ((p0:Int)::r0) 0=(p0:Int) from rfl] at c0
           obtain ⟨-,hcr1,hcut⟩:=hcut
           obtain ⟨-,cs,fz⟩:=hleft.cells
           have cp:=cs p0 hp0
           have fp:=fz p0
           have HST:=Lib.hid (hleft.store p0 (Z (rrLf L t) p0 - 1))
           have hl1:(((p0:Int)::r0).length:Int)=(r0.length:Int)+1:=by simp
           have hl2:((p0:Int)::r0).length=r0.length+1:=by simp
           have d1:decide ((0:Int) < (r0.length:Int)+1)=true:=decide_eq_true (by omega)
           have z1:(0:Int)<=(p0:Int):=by omega
           have z2:(p0:Int) < (L.length:Int):=by omega
           have z3:(1:Int)<=(r0.length:Int)+1:=by omega
           obtain ⟨Q1,hQ1⟩:∃ Q1,(if cr=1 then some (⟨br,off,none⟩:Addr) else some ⟨br,off+1,none⟩)=Q1:=⟨_,rfl⟩
           rw [hQ1] at hcut
           have z4:r0.length+1<=cr:=by rw [<- hl2];injection e9 with _ _ e8;omega
           rw [hl2]
           have hzb:Z (rrLf L t) p0<=9:=by omega
           have hlr:br < wr.heap.size:=by rw [<- e10.1];exact h92
           obtain ⟨W2,hW2⟩:∃ W2,wr.setCell ⟨bl,p0,none⟩ (.int .i64 (Z (rrLf L t) p0 - 1))=W2:=⟨_,rfl⟩
           have hgs:wr.grownBy W2 (some bl):=by rw [<- hW2];exact grownBy_set wr bl p0 _
           have hs2:W2.heap.size=wr.heap.size:=by rw [<- hW2];simp [World.setCell]
           have hout2:IO W2 w.heap.size (.slice (some ⟨bo,0,none⟩) t co) (rrO L t):=hout.grownR' hgs (fun r e e2=>by
            have h3:bo=r:=by simpa [Value.ownBlock] using e
            have h4:bl=r:=by simpa using e2
            omega)
           have hleft2:IO W2 w.heap.size (.slice (some ⟨bl,0,none⟩) L.length cl) (rrLf L (t+1)):=by rw [<- hW2,HLf.out];exact HST.out
           have hrow2:QO W2 w.heap.size (.slice Q1 r0.length (cr - 1)) r0:=hcut.kept hgs (fun r e e2=>by
            have h4:bl=r:=by simpa using e2
            have h3:br=r:=by
             rw [<- hQ1] at e
             split at e <;> simpa [Value.ownBlock] using e
            omega)
           have hb2:Below w.heap.size w W2:=hb.grown hgs hsz (fun r e=>by
            have h4:bl=r:=by simpa using e
            omega)
           have HS2:=Lib.hid hs2
           have hb3s:w.heap.size<=W2.heap.size:=hb2.size
           have HQ:=Lib.hid (show ∃ off',Q1=some ⟨br,off',none⟩ by rw [<- hQ1];split <;> exact ⟨_,rfl⟩)
           clear hs2 hq inv hnd hmem hql hw hrg e9 h90 h91 h92 h93 e10 cs fz hl1 hl2 hcut HST hgs hrow hleft hout hb
           go_wp2_with (refine app_IL ?_ (.tmp 83) (.tmp 85) ?_ w.heap.size (.slice (some ⟨bo,0,none⟩) t co) (rrO L t) (p0:Int) W2.heap.size ?_ ?_ ?_ ?_ ?_ ?_ ?_;rfl;rfl;rfl;exact (hout2.alloc _);rfl;exact (heap_alloc_new _ _);exact q5;exact (Nat.le_trans hb3s (by simp));intro g8 cap8 w8 hown8 hgr8 hor8)
           have hrow8:=(hrow2.alloc (.cells #[.int .i64 (p0:Int)] 3)).kept hgr8 (fun r e e2=>by
            have h3:br=r:=by
             rw [<- hQ1] at e
             split at e <;> simpa [Value.ownBlock] using e
            have h4:bo=r:=by simpa [Value.ownBlock] using e2
            omega)
           have hleft8:=(hleft2.alloc (.cells #[.int .i64 (p0:Int)] 3)).grownR' hgr8 (fun r e e2=>by
            have h3:bl=r:=by simpa [Value.ownBlock] using e
            have h4:bo=r:=by simpa [Value.ownBlock] using e2
            omega)
           have hb8:Below w.heap.size w w8:=(hb2.alloc hb3s _).grown hgr8 (by simp;omega) (fun r e=>by
            have h4:bo=r:=by simpa [Value.ownBlock] using e
            omega)
           have hne8:g8≠bl∧g8≠br∧bl≠br:=by
            have hs9:=HS2.out
            rcases hor8 with h | h
            ·have h4:bo=g8:=by simpa [Value.ownBlock] using h
             omega
            ·simp at h;omega
           obtain ⟨off',rfl⟩:=HQ.out
           rw [HOL.out] at hown8
           go_roundw
           case rel=>exact ⟨t+1,g8,cap8,br,off',cr - 1,by omega,by go_num,by rw [HOL.out],by rw [HO.out,HW.out];exact hown8,hleft8,by rw [HRo.out],by rw [HRo.out];exact hrow8,by rw [rrB_succ,HW.out],hne8,hb8⟩
           case measure=>simp [intOf];omega
       ·have dz:decide (0 < Z (rrLf L t) p)=false:=decide_eq_false hz0
        have HZ:=Lib.hid (rowK_zero' (L:=L) (t:=t) (by rw [eb,Int.toNat_natCast];omega))
        rw [eb]
        clear hz0 eb hl9 hrl
        go_wp2_with fail
        have hrow7:QO w5 w.heap.size (.slice (some ⟨br,off9,none⟩) (rowK L t 0).length cr) (rowK L t 0):=by rw [HZ.out];exact hrow5
        have HL0:=Lib.hid (show (rrRow L t).length=(rowK L t 0).length by rw [HZ.out])
        rw [HL0.out]
        clear hrow5
        go_loopw [6,9] (fun r i wx=>∃ k br off cr:Nat,k<=L.length∧i=.int .i64 (k:Int)∧r=.slice (some ⟨br,off,none⟩) (rowK L t k).length cr∧QO wx w.heap.size (.slice (some ⟨br,off,none⟩) (rowK L t k).length cr) (rowK L t k)∧IO wx w.heap.size (.slice (some ⟨bo,0,none⟩) t co) (rrO L t)∧IO wx w.heap.size (.slice (some ⟨bl,0,none⟩) L.length cl) (rrLf L t)∧(bo≠bl∧bo≠br∧bl≠br)∧Below w.heap.size w wx) (fun _ i _=>L.length - (intOf i).toNat)
        case atStart=>exact ⟨0,br,off9,cr,by omega,rfl,rfl,hrow7,hout5,hleft5,hne,hb6⟩
        case round =>
         clear hout5 hleft5 hrow7 hne hb6
         obtain ⟨k,br,off,cr,hk,rfl,rfl,hrow,hout,hleft,hne,hb⟩:=hrel
         have hsz:=hb.size
         have hlo:=owns_lt hout bo (by simp [Value.ownBlock])
         have hll:=owns_lt hleft bl (by simp [Value.ownBlock])
         have hbo:=owns_base hout bo (by simp [Value.ownBlock])
         have hbl:=owns_base hleft bl (by simp [Value.ownBlock])
         have hobr:w.heap.size<=br:=by obtain ⟨g9,o9,c9,e9,-,h9,-⟩:=hrow.form;injection e9 with e8 _ _;injection e8 with e8;injection e8 with e8 _ _;omega
         by_cases hkl:k < L.length
         ·obtain ⟨b,off2,rfl,hlb,hc⟩:=hA (by omega)
          have c1:=(hb.cell (p:=⟨b,off2+k * 2,none⟩) hlb).trans (hc k hkl).1
          have z1:(0:Int)<=(k:Int):=by omega
          have z2:(k:Int) < (L.length:Int):=by omega
          clear hc
          by_cases hx:X L k=(t:Int)
          ·have dx:(X L k == (t:Int))=true:=beq_iff_eq.2 hx
           have HS:=Lib.hid (rowK_yes hx)
           have q5:(rowK L t k).length<=1000000000000:=by have:=HKl.out t k hk;omega
           clear hx
           go_wp2_with (refine app_Q ?_ (.tmp 63) (.tmp 65) ?_ w.heap.size (.slice (some ⟨br,off,none⟩) (rowK L t k).length cr) (rowK L t k) (k:Int) wr.heap.size ?_ ?_ ?_ ?_ ?_ ?_ ?_;rfl;rfl;rfl;exact (hrow.alloc _);rfl;exact (heap_alloc_new _ _);exact q5;exact (Nat.le_trans hsz (by simp));intro g8 off8 cap8 w8 hown8 hgr8 hor8)
           have hout8:=(hout.alloc (.cells #[.int .i64 (k:Int)] 3)).grownR' hgr8 (fun r e e2=>by
            have h3:bo=r:=by simpa [Value.ownBlock] using e
            have h4:br=r:=by simpa [Value.ownBlock] using e2
            omega)
           have hleft8:=(hleft.alloc (.cells #[.int .i64 (k:Int)] 3)).grownR' hgr8 (fun r e e2=>by
            have h3:bl=r:=by simpa [Value.ownBlock] using e
            have h4:br=r:=by simpa [Value.ownBlock] using e2
            omega)
           have hb8:Below w.heap.size w w8:=(hb.alloc hsz _).grown hgr8 (by simp;omega) (fun r e=>by
            have h4:br=r:=by simpa [Value.ownBlock] using e
            omega)
           have hne8:bo≠bl∧bo≠g8∧bl≠g8:=by
            rcases hor8 with h | h
            ·have h4:br=g8:=by simpa [Value.ownBlock] using h
             omega
            ·simp at h;omega
           have hlk:(rowK L t (k+1)).length=(rowK L t k).length+1:=by rw [HS.out];simp
           have HLK:=Lib.hid hlk
           clear hlk
           go_roundw
           case rel=>exact ⟨k+1,g8,off8,cap8,by omega,by go_num,by rw [HLK.out],by rw [HLK.out,HS.out];exact hown8,hout8,hleft8,hne8,hb8⟩
           case measure=>simp [intOf];omega
          ·have dx:(X L k == (t:Int))=false:=beq_eq_false_iff_ne.2 hx
           have HS:=Lib.hid (rowK_no hx)
           clear hx
           go_wp2_with fail
           go_roundw
           case rel=>exact ⟨k+1,br,off,cr,by omega,by go_num,by rw [HS.out],by rw [HS.out];exact hrow,hout,hleft,hne,hb⟩
           case measure=>simp [intOf];omega
         ·have hlf:¬ ((k:Int) < (L.length:Int)):=by omega
          obtain rfl:k=L.length:=by omega
          obtain ⟨inv,hnd,hmem⟩:=HInv.out t
          have hql:=HKl.out t L.length (Nat.le_refl _)
          rw [rowK_all] at hrow hql ⊢
          have HO:=Lib.hid (show rrO L (t+1)=rrO L t++[rrW L t] from ordF_succ _ _)
          have hol:(rrO L t).length=t:=ordF_len _ _
          have q5:(rrO L t).length<=1000000000000:=by rw [hol];omega
          have HOL:=Lib.hid hol
          clear hol
          cases hq:rrQ L t with
          | nil =>
           have hw:rrW L t=-1:=by simp [rrW,hq]
           have HW:=Lib.hid hw
           have HLf:=Lib.hid (show rrLf L (t+1)=rrLf L t by rw [rrLf_succ,hw];simp [stepL])
           have HRo:=Lib.hid (show rrRow L (t+1)=[] by rw [rrRow_succ,hq];rfl)
           rw [hq] at hrow
           have hl0:(([]:List Int).length:Int)=0:=rfl
           clear hq inv hnd hmem hql hw
           go_wp2_with (refine app_IL ?_ (.tmp 83) (.tmp 85) ?_ w.heap.size (.slice (some ⟨bo,0,none⟩) t co) (rrO L t) (-1) wr.heap.size ?_ ?_ ?_ ?_ ?_ ?_ ?_;rfl;rfl;rfl;exact (hout.alloc _);rfl;exact (heap_alloc_new _ _);exact q5;exact (Nat.le_trans hsz (by simp));intro g8 cap8 w8 hown8 hgr8 hor8)
           have hrow8:=(hrow.alloc (.cells #[.int .i64 (-1)] 3)).kept hgr8 (fun r e e2=>by
            have h3:br=r:=by simpa [Value.ownBlock] using e
            have h4:bo=r:=by simpa [Value.ownBlock] using e2
            omega)
           have hleft8:=(hleft.alloc (.cells #[.int .i64 (-1)] 3)).grownR' hgr8 (fun r e e2=>by
            have h3:bl=r:=by simpa [Value.ownBlock] using e
            have h4:bo=r:=by simpa [Value.ownBlock] using e2
            omega)
           have hlr:br < wr.heap.size:=by obtain ⟨g9,o9,c9,e9,-,-,h9,-⟩:=hrow.form;injection e9 with e8 _ _;injection e8 with e8;injection e8 with e8 _ _;omega
           have hb8:Below w.heap.size w w8:=(hb.alloc hsz _).grown hgr8 (by simp;omega) (fun r e=>by
            have h4:bo=r:=by simpa [Value.ownBlock] using e
            omega)
           have hne8:g8≠bl∧g8≠br∧bl≠br:=by
            rcases hor8 with h | h
            ·have h4:bo=g8:=by simpa [Value.ownBlock] using h
             omega
            ·simp at h;omega
           rw [HOL.out] at hown8
           go_roundw
           case rel=>exact ⟨t+1,g8,cap8,br,off,cr,by omega,by go_num,by rw [HOL.out],by rw [HO.out,HW.out];exact hown8,by rw [HLf.out];exact hleft8,by rw [HRo.out];rfl,by rw [HRo.out];exact hrow8,by rw [rrB_succ,HW.out],hne8,hb8⟩
           case measure=>simp [intOf];omega
          | cons w0 r0 =>
           obtain ⟨p0,rfl,hp0,hx0,hz0⟩:=(hmem w0).1 (by rw [hq];simp)
           have hw:rrW L t=(p0:Int):=by simp [rrW,hq]
           have HW:=Lib.hid hw
           have hrg:=inv.rng p0 hp0
           have hYb:=HXY.out p0 hp0
           have HLf:=Lib.hid (show rrLf L (t+1)=(rrLf L t).set p0 (Z (rrLf L t) p0 - 1) by rw [rrLf_succ,hw];simp [stepL])
           have HRo:=Lib.hid (show rrRow L (t+1)=r0 by rw [rrRow_succ,hq];rfl)
           rw [hq] at hrow hql
           have hcut:=hrow.cut
           obtain ⟨g9,o9,c9,e9,h90,h91,h92,h93⟩:=hrow.form
           have e10:g9=br∧o9=off:=by injection e9 with e8 _ _;injection e8 with e8;injection e8 with e8 e7 _;exact ⟨e8.symm,e7.symm⟩
           have c0:=h93 0 (by simp)
           rw [e10.1,e10.2,Nat.add_zero] at c0
           rw [show Z ((p0:Int)::r0) 0=(p0:Int) from rfl] at c0
           obtain ⟨-,hcr1,hcut⟩:=hcut
           obtain ⟨-,cs,fz⟩:=hleft.cells
           have cp:=cs p0 hp0
           have fp:=fz p0
           have HST:=Lib.hid (hleft.store p0 (Z (rrLf L t) p0 - 1))
           have hl1:(((p0:Int)::r0).length:Int)=(r0.length:Int)+1:=by simp
           have hl2:((p0:Int)::r0).length=r0.length+1:=by simp
           have d1:decide ((0:Int) < (r0.length:Int)+1)=true:=decide_eq_true (by omega)
           have z1:(0:Int)<=(p0:Int):=by omega
           have z2:(p0:Int) < (L.length:Int):=by omega
           have z3:(1:Int)<=(r0.length:Int)+1:=by omega
           obtain ⟨Q1,hQ1⟩:∃ Q1,(if cr=1 then some (⟨br,off,none⟩:Addr) else some ⟨br,off+1,none⟩)=Q1:=⟨_,rfl⟩
           rw [hQ1] at hcut
           have z4:r0.length+1<=cr:=by rw [<- hl2];injection e9 with _ _ e8;omega
           rw [hl2]
           have hzb:Z (rrLf L t) p0<=9:=by omega
           have hlr:br < wr.heap.size:=by rw [<- e10.1];exact h92
           obtain ⟨W2,hW2⟩:∃ W2,wr.setCell ⟨bl,p0,none⟩ (.int .i64 (Z (rrLf L t) p0 - 1))=W2:=⟨_,rfl⟩
           have hgs:wr.grownBy W2 (some bl):=by rw [<- hW2];exact grownBy_set wr bl p0 _
           have hs2:W2.heap.size=wr.heap.size:=by rw [<- hW2];simp [World.setCell]
           have hout2:IO W2 w.heap.size (.slice (some ⟨bo,0,none⟩) t co) (rrO L t):=hout.grownR' hgs (fun r e e2=>by
            have h3:bo=r:=by simpa [Value.ownBlock] using e
            have h4:bl=r:=by simpa using e2
            omega)
           have hleft2:IO W2 w.heap.size (.slice (some ⟨bl,0,none⟩) L.length cl) (rrLf L (t+1)):=by rw [<- hW2,HLf.out];exact HST.out
           have hrow2:QO W2 w.heap.size (.slice Q1 r0.length (cr - 1)) r0:=hcut.kept hgs (fun r e e2=>by
            have h4:bl=r:=by simpa using e2
            have h3:br=r:=by
             rw [<- hQ1] at e
             split at e <;> simpa [Value.ownBlock] using e
            omega)
           have hb2:Below w.heap.size w W2:=hb.grown hgs hsz (fun r e=>by
            have h4:bl=r:=by simpa using e
            omega)
           have HS2:=Lib.hid hs2
           have hb3s:w.heap.size<=W2.heap.size:=hb2.size
           have HQ:=Lib.hid (show ∃ off',Q1=some ⟨br,off',none⟩ by rw [<- hQ1];split <;> exact ⟨_,rfl⟩)
           clear hs2 hq inv hnd hmem hql hw hrg e9 h90 h91 h92 h93 e10 cs fz hl1 hl2 hcut HST hgs hrow hleft hout hb
           go_wp2_with (refine app_IL ?_ (.tmp 83) (.tmp 85) ?_ w.heap.size (.slice (some ⟨bo,0,none⟩) t co) (rrO L t) (p0:Int) W2.heap.size ?_ ?_ ?_ ?_ ?_ ?_ ?_;rfl;rfl;rfl;exact (hout2.alloc _);rfl;exact (heap_alloc_new _ _);exact q5;exact (Nat.le_trans hb3s (by simp));intro g8 cap8 w8 hown8 hgr8 hor8)
           have hrow8:=(hrow2.alloc (.cells #[.int .i64 (p0:Int)] 3)).kept hgr8 (fun r e e2=>by
            have h3:br=r:=by
             rw [<- hQ1] at e
             split at e <;> simpa [Value.ownBlock] using e
            have h4:bo=r:=by simpa [Value.ownBlock] using e2
            omega)
           have hleft8:=(hleft2.alloc (.cells #[.int .i64 (p0:Int)] 3)).grownR' hgr8 (fun r e e2=>by
            have h3:bl=r:=by simpa [Value.ownBlock] using e
            have h4:bo=r:=by simpa [Value.ownBlock] using e2
            omega)
           have hb8:Below w.heap.size w w8:=(hb2.alloc hb3s _).grown hgr8 (by simp;omega) (fun r e=>by
            have h4:bo=r:=by simpa [Value.ownBlock] using e
            omega)
           have hne8:g8≠bl∧g8≠br∧bl≠br:=by
            have hs9:=HS2.out
            rcases hor8 with h | h
            ·have h4:bo=g8:=by simpa [Value.ownBlock] using h
             omega
            ·simp at h;omega
           obtain ⟨off',rfl⟩:=HQ.out
           rw [HOL.out] at hown8
           go_roundw
           case rel=>exact ⟨t+1,g8,cap8,br,off',cr - 1,by omega,by go_num,by rw [HOL.out],by rw [HO.out,HW.out];exact hown8,hleft8,by rw [HRo.out],by rw [HRo.out];exact hrow8,by rw [rrB_succ,HW.out],hne8,hb8⟩
           case measure=>simp [intOf];omega
     ·have p1:¬ (t:Int) < (T:Int):=by omega
      obtain rfl:t=T:=by omega
      go_wp2_with fail
      go_ret
      exact ⟨_,rfl,by rw [HV.out];exact hout5,hb6⟩
end
section
attribute [local go_sem ↓] Go.wp_at_zero Go.wp_at_succ
theorem c_sSumOf (L:List (Int×Int)) (o:List Int) (A O:Option Addr) (c d:Nat) (w:World) (hA:Cs w w.heap.size A L) (hO:Is w w.heap.size O o) (hn:L.length<=1000000000000) (ho:o.length<=140737488351232) :
  Calls Tryz.prog 79 #[.slice A L.length c,.slice O o.length d] w fun e w'=>e=.returned (.int .i64 (sumV L o))∧Below w.heap.size w w':=by
 have HK:=Lib.hid (c_sOrderOk L o A O c d w hA hO hn ho)
 by_cases hok:ordOk L o=true
 ·have H:=Lib.hid hok
  have HV:=Lib.hid (sumV_yes hok)
  have HE:=Lib.hid (timesR_yes hok)
  have Ht:=Lib.hid (fun j (hj:j<=L.length)=>tmTo_bd hok j hj)
  have Hb:=Lib.hid (fun k (hk:k < L.length)=>time_bd hok hk)
  have Hc:=Lib.hid (fun k (hk:k < L.length)=>cOk_bd (ordOk_parts hok).1 hk)
  have hlen:=cOk_len (ordOk_parts hok).1
  clear hok
  go_enter Tryz.func79,Tryz.ntmps79
  go_wp2_with fail
  refine HK.out.mono ?_
  rintro e w1 ⟨rfl,hb1⟩
  rw [H.out]
  have hs1:=hb1.size
  clear HK
  go_wp2_with fail
  refine (c_sTimesOf L o A O c d _ ((hA.below hb1).more hs1) ((hO.below hb1).more hs1) hn ho).mono ?_
  rintro e w2 ⟨v,rfl,o2,hb2⟩
  rw [HE.out] at o2
  obtain ⟨G,g,rfl,-,hG⟩:=o2.formG
  rw [timeL_len] at hG ⊢
  have HG:=Lib.hid hG
  have hb3:=hb1.trans (hb2.mono hs1)
  clear hG o2 hb2 hb1
  go_wp2_with fail
  go_loop [5,7] (fun s i=>∃ k:Nat,k<=L.length∧i=.int .i64 k∧s=.int .i64 (tmTo L o k)) (fun _ i=>L.length - (intOf i).toNat)
  case atStart=>exact ⟨0,by omega,rfl,rfl⟩
  case round =>
   obtain ⟨k,hk,rfl,rfl⟩:=hrel
   by_cases hlt:k < L.length
   ·obtain ⟨gb,rfl,-,hgb,hgc⟩:=HG.out (by omega)
    have c1:=hgc k hlt
    rw [timeL_Z hlt] at c1
    have b1:=Ht.out k (by omega)
    have b2:=Hb.out k hlt
    have b3:=Hc.out k hlt
    have bn:=Ht.out (k+1) (by omega)
    have HS:=Lib.hid (show tmTo L o (k+1)=tmTo L o k+(endTo o k o.length - X L k) from rfl)
    have p1:(0:Int)<=(k:Int):=by omega
    have p2:(k:Int) < (L.length:Int):=by omega
    clear hgc
    generalize endTo o k o.length - X L k=y at *
    go_wp2_with fail
    go_round
    case rel=>exact ⟨k+1,by omega,by go_num,by rw [HS.out]⟩
    case measure=>simp [intOf];omega
   ·have hlf:¬ ((k:Int) < (L.length:Int)):=by omega
    go_wp2_with fail
    go_ret
    exact ⟨by rw [HV.out,show L.length=k by omega];rfl,hb3⟩
 ·have H:=Lib.hid (show ordOk L o=false by simpa using hok)
  have HB:=Lib.hid (sumV_no H.out)
  clear hok
  go_enter Tryz.func79,Tryz.ntmps79
  go_wp2_with fail
  refine HK.out.mono ?_
  rintro e w1 ⟨rfl,hb1⟩
  rw [H.out]
  go_wp2_with fail
  go_ret
  exact ⟨by rw [HB.out];rfl,hb1⟩
theorem c_sLeastSum (L:List (Int×Int)) (A:Option Addr) (c:Nat) (w:World) (hA:Cs w w.heap.size A L) (hn:L.length<=140737488351232) :
  Calls Tryz.prog 73 #[.slice A L.length c] w fun e w'=>e=.returned (.int .i64 (leastV L))∧Below w.heap.size w w':=by
 by_cases hc:cOk L=true
 ·have H:=Lib.hid hc
  have hlen:=cOk_len hc
  have HV:=Lib.hid (show leastV L=sumV L (orderR L 2) by
   obtain ⟨T,hT,_⟩:=lastLeave_nat hc
   rw [leastV_yes hc,sumV_yes (by rw [orderR_two hc (by omega) hT];exact orderTo_ok hc 2 hT)])
  have hl:(orderR L 2).length<=132:=by
   obtain ⟨T,hT,hT2⟩:=lastLeave_nat hc
   rw [orderR_two hc (by omega) hT,orderTo_len];exact hT2
  clear hc
  go_enter Tryz.func73,Tryz.ntmps73
  go_wp2_with fail
  refine (c_sCustomersOk L A c _ hA hn).mono ?_
  rintro e w1 ⟨rfl,hb1⟩
  rw [H.out]
  have hs1:=hb1.size
  have hA1:=(hA.below hb1).more hs1
  go_wp2_with fail
  refine (c_sOrderBy L A c 2 _ hA1 hn).mono ?_
  rintro e w2 ⟨v,rfl,o2,hb2⟩
  have hA2:=(hA1.below hb2).more hb2.size
  obtain ⟨G,g,rfl,-,-,hG⟩:=o2.form
  have hb3:=hb1.trans (hb2.mono hs1)
  clear hb1 hb2 hA1 o2
  go_wp2_with fail
  refine (c_sSumOf L (orderR L 2) A G c g _ hA2 hG (by omega) (by omega)).mono ?_
  rintro e w4 ⟨rfl,hb4⟩
  go_wp2_with fail
  go_ret
  exact ⟨by rw [HV.out];rfl,hb3.trans (hb4.mono hb3.size)⟩
 ·have H:=Lib.hid (show cOk L=false by simpa using hc)
  have HB:=Lib.hid (leastV_no H.out)
  clear hc
  go_enter Tryz.func73,Tryz.ntmps73
  go_wp2_with fail
  refine (c_sCustomersOk L A c _ hA hn).mono ?_
  rintro e w1 ⟨rfl,hb1⟩
  rw [H.out]
  go_wp2_with fail
  go_ret
  exact ⟨by rw [HB.out];rfl,hb1⟩
end
end Go.Proofs.YthpccmkagikhjaaGreatDoor

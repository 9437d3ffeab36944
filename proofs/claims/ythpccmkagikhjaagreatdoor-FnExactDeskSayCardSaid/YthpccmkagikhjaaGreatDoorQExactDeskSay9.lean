import Derived.Test.YthpccmkagikhjaaGreatDoorQExactDeskSay3
import Derived.Test.YthpccmkagikhjaaGreatDoorQExactDeskSay4
import Derived.Test.YthpccmkagikhjaaGreatDoorQExactDeskSay6
import Derived.Test.YthpccmkagikhjaaGreatDoorQExactDeskSay7
import Derived.Test.YthpccmkagikhjaaGreatDoorQExactDeskSay8
import Derived.Below
namespace Go.Proofs.YthpccmkagikhjaaGreatDoor
set_option linter.unusedVariables false
open Go.RowKit
set_option maxRecDepth 8000
set_option maxHeartbeats 8000000
section
attribute [local go_sem ↓] Go.wp_at_zero Go.wp_at_succ
section
variable {w:World}
theorem app_EN {ops:Array Oper} {rest:List Oper} {o:Oper} {a:Act} {Q:Exit->Act->World->Prop} (hgd:o.guard=none) (s x:Operand)
  (ho:o.op=.call { callee:=.builtin .append,args:=#[s,x],argTypes:=#[24,24] })
  (base:Nat) (v:Value) (L M:List DV) (B n m:Nat) (hn:M.length=n) (hm':L.length+n=m) (hs:a.eval s=v) (hown:EO w base v L) (hm:0 < M.length) (hx:a.eval x=.slice (some ⟨B,0,none⟩) n n)
  (hB:w.heap[B]?=some (.cells (flatD M).toArray 39 (0,0))) (hlen:L.length+M.length<=1000000000000) (hbase:base<=w.heap.size)
  (h:∀ g cap w',EO w' base (.slice (some ⟨g,0,none⟩) m cap) (L++M)->w.grownBy w' v.ownBlock->Below base w w'->wpList Tryz.prog ops Q rest (a.put o.dst (.slice (some ⟨g,0,none⟩) m cap)) w') :
  wpList Tryz.prog ops Q (o::rest) a w:=by
 subst hn hm'
 obtain ⟨i0,hi,hz0,hz1,hz2⟩:=info_parts infoDe
 have h1c:∀ u ∈ flatD M,u.oneCell'=true:=by
  intro u hu
  simp only [flatD,List.mem_flatMap] at hu
  obtain ⟨d,_,hu⟩:=hu
  simp only [List.mem_cons,List.not_mem_nil,or_false] at hu
  rcases hu with rfl | rfl | rfl <;> rfl
 refine wpList_append_lies w hgd s x _ ho base 39 i0 _ 3 24 Tryz.underlying24 hi hz0 hz1 hz2 rfl (by decide) v L.length _ hs hown
  ⟨B,0,none⟩ M.length M.length (flatD M) hx (by rw [flatD_len]) (by have:=World.news_of_block (cs:=(flatD M).toArray) hB;simpa using this) h1c hm (by simp only [maxLen];omega) (by omega) hbase _ rfl ?_
 intro g cap w' h1 h2 _ _
 exact h g cap w' (by simpa [EO,flatD] using h1) h2 ((Below.refl _ _).grown h2 hbase (owns_base hown))
theorem step_E {ops:Array Oper} {o:Oper} {a:Act} {K:Act->World->Prop} {Q:Exit->Act->World->Prop} {E:Prop} (hgd:o.guard=none) (s x:Operand)
  (ho:o.op=.call { callee:=.builtin .append,args:=#[s,x],argTypes:=#[24,24] })
  (base:Nat) (v:Value) (L:List DV) (p q r:Int) (B m:Nat) (hm:L.length+1=m) (hs:a.eval s=v) (hown:EO w base v L) (hx:a.eval x=.slice (some ⟨B,0,none⟩) 1 1)
  (hB:w.heap[B]?=some (.cells #[.int .i64 p,.int .i64 q,.int .i64 r] 39 (0,0))) (hlen:L.length<=1000000000000) (hbase:base<=w.heap.size)
  (h:∀ g cap w',EO w' base (.slice (some ⟨g,0,none⟩) m cap) (L++[⟨p,q,r⟩])->w.grownBy w' v.ownBlock->Below base w w'->K (a.put o.dst (.slice (some ⟨g,0,none⟩) m cap)) w') :
  if Region.wanted o (yielded ops a.tmps)=true then Oper.wp Tryz.prog o a w K Q else E:=by
 subst hm
 obtain ⟨i0,hi,hz0,hz1,hz2⟩:=info_parts infoDe
 refine step_append_lies w hgd s x _ ho base 39 i0 _ 3 24 Tryz.underlying24 hi hz0 hz1 hz2 rfl (by decide) v L.length _ hs hown
  ⟨B,0,none⟩ 1 1 [.int .i64 p,.int .i64 q,.int .i64 r] hx rfl (World.news_of_block (cs:=#[.int .i64 p,.int .i64 q,.int .i64 r]) hB) (by simp [Value.oneCell']) (by decide) (by simp only [maxLen];omega) (by omega) hbase _ rfl ?_
 intro g cap w' h1 h2 _ _
 exact h g cap w' (by simpa [EO,flatD_snoc] using h1) h2 ((Below.refl _ _).grown h2 hbase (owns_base hown))
end
theorem EO.lit {w:World} {base:Nat} (h:base<=w.heap.size) (M:List DV) (hm:M.length<=1000):EO (w.alloc (.cells (flatD M).toArray 39)) base (.slice (some ⟨w.heap.size,0,none⟩) M.length M.length) M:=by
 refine ⟨by rw [flatD_len],.inr ⟨w.heap.size,M.length,(flatD M).toArray,rfl,h,heap_alloc_new _ _,Nat.le_refl _,by simp only [maxLen];omega,?_,?_⟩⟩
 ·simp [flatD_len]
 ·exact List.take_of_length_le (by simp [flatD_len])
theorem EO.cells3 {w:World} {base g n c:Nat} {M:List DV} (h:EO w base (.slice (some ⟨g,0,none⟩) n c) M) (k:Nat) (hk:k < n) :
  w.cell? ⟨g,k * 3,none⟩=some (.int .i64 (ZD M k).k)∧w.cell? ⟨g,k * 3+1,none⟩=some (.int .i64 (ZD M k).a)∧w.cell? ⟨g,k * 3+2,none⟩=some (.int .i64 (ZD M k).b):=by
 obtain ⟨hn,hD⟩:=h.isOf
 obtain ⟨b,off,e,_,hc⟩:=hD (by omega)
 injection e with e
 injection e with e1 e2 _
 subst e1 e2
 have:=hc k (by omega)
 simpa using this
theorem set3 {w:World} {R:Nat} {t:TypeId} {x y z:Value} (p q r:Value) (h:w.heap[R]?=some (.cells #[x,y,z] t (0,0))) :
  (((w.setCell ⟨R,0,none⟩ p).setCell ⟨R,1,none⟩ q).setCell ⟨R,2,none⟩ r).heap[R]?=some (.cells #[p,q,r] t (0,0)):=by
 obtain ⟨hlt,he⟩:=Array.getElem?_eq_some_iff.1 h
 rw [Array.getElem?_eq_getElem (by simpa [World.setCell] using hlt)]
 simp [World.setCell,Array.getElem_modify,he]
def pD (s:List UInt8) (d:DV):Bool:=decide (s≠[]) && decide (deedL d=s)
theorem find_yes {L:List DV} {p:DV->Bool} {k:Nat} (hk:k < L.length) (h:∀ j,j < k->p (ZD L j)=false) (hp:p (ZD L k)=true):L.find? p=some (ZD L k):=by
 have e:∀ j (hj:j < L.length),ZD L j=L[j]:=fun j hj=>by simp [ZD,hj]
 refine List.find?_eq_some_iff_getElem.2 ⟨hp,k,hk,(e k hk).symm,fun j hj=>?_⟩
 rw [<- e j (by omega),h j hj];rfl
theorem find_no {L:List DV} {p:DV->Bool} (h:∀ j,j < L.length->p (ZD L j)=false):L.find? p=none:=by
 refine List.find?_eq_none.2 (fun d hd=>?_)
 obtain ⟨j,hj,rfl⟩:=List.getElem_of_mem hd
 have:=h j hj
 have e:ZD L j=L[j]:=by simp [ZD,hj]
 rw [e] at this;simp [this]
def readV (o:Option DV):Value:=match o with
 | some d=>.tuple #[.agg #[.int .i64 d.k,.int .i64 d.a,.int .i64 d.b],.bool true]
 | none=>.tuple #[.agg #[.int .i64 0,.int .i64 0,.int .i64 0],.bool false]
theorem cutS_short (c:UInt8) (B:Nat):∀ (l:List UInt8) (s:List (List UInt8)×List UInt8),s.2.length+l.length<=B->(∀ x ∈ s.1,x.length<=B) ->
  (∀ x ∈ (l.foldl (fun s d=>if d=c then (s.1++[s.2],[]) else (s.1,s.2++[d])) s).1,x.length<=B)∧(l.foldl (fun s d=>if d=c then (s.1++[s.2],[]) else (s.1,s.2++[d])) s).2.length<=B:=by
 intro l
 induction l with
 | nil=>intro s h1 h2;exact ⟨h2,by simpa using h1⟩
 | cons d l ih =>
  intro s h1 h2
  simp only [List.length_cons] at h1
  simp only [List.foldl]
  split
  ·refine ih _ (by simp;omega) (fun x hx=>?_)
   simp only [List.mem_append,List.mem_singleton] at hx
   rcases hx with hx | rfl
   ·exact h2 x hx
   ·omega
  ·exact ih _ (by simp;omega) h2
theorem cut_short (s:List UInt8) (k:Nat):(ZS (cutL 32 s) k).length<=s.length:=by
 obtain ⟨h1,h2⟩:=cutS_short 32 s.length s ([],[]) (by simp) (by simp)
 have h3:∀ x ∈ cutL 32 s,x.length<=s.length:=by
  intro x hx
  simp only [cutL,List.mem_append,List.mem_singleton] at hx
  rcases hx with hx | rfl
  ·exact h1 x hx
  ·exact h2
 by_cases hk:k < (cutL 32 s).length
 ·simp only [ZS,List.getD_eq_getElem?_getD,List.getElem?_eq_getElem hk,Option.getD_some]
  exact h3 _ (List.getElem_mem _)
 ·simp [ZS,List.getD_eq_getElem?_getD,List.getElem?_eq_none (by omega:(cutL 32 s).length<=k)]
theorem c_sReadDeed (s:List UInt8) (hs:s.length<=100000000) (w:World) :
  Calls Tryz.prog 45 #[.string (bs s)] w fun e w'=>e=.returned (readV (readD s))∧Below w.heap.size w w':=by
 have HCut:=Lib.hid (fun W=>show Calls Tryz.prog 75 #[.string (bs s),.int .u8 32] W fun e w'=>∃ v,e=.returned v∧SO w' W.heap.size v (cutL 32 s)∧Below W.heap.size W w' from by
  have K:=c_sCut (bs s) 32 (by rw [bs_size];omega) W
  exact K)
 have HF:=Lib.hid (show readD s=(candL s).find? (pD s) from rfl)
 by_cases h3:(cutL 32 s).length=3
 ·have e3:(((cutL 32 s).length:Int) == 3)=true:=beq_iff_eq.2 (by omega)
  have e2:(((cutL 32 s).length:Int) == 2)=false:=beq_eq_false_iff_ne.2 (by omega)
  have hcd:candL s=[⟨1,0,0⟩,⟨4,0,0⟩]++[⟨0,digL (ZS (cutL 32 s) 1),digL (ZS (cutL 32 s) 2)⟩]:=by simp [candL,h3,ZS]
  rw [hcd] at HF
  have HDg:=Lib.hid (fun (x:List UInt8) (hx:x.length<=1000000000) W=>show Calls Tryz.prog 76 #[.string (bs x)] W fun e w'=>e=.returned (.int .i64 (digL x))∧w'=W from c_sDigits (bs x) (by rw [bs_size];omega) W)
  have HL:=Lib.hid (fun k=>cut_short s k)
  clear hcd
  go_enter Tryz.func45,Tryz.ntmps45
  go_wp2_with fail
  refine (HCut.out _).mono ?_
  rintro e w1 ⟨v,rfl,hown1,hb1⟩
  obtain ⟨A1,n1,rfl,-,-,hA1⟩:=hown1.form
  go_wp2_with fail
  have hz0:(w.alloc (.cells #[.int .i64 0,.int .i64 0,.int .i64 0] 39)).heap.size=w.heap.size+1:=by simp
  have bR0:=heap_alloc_new w (.cells #[.int .i64 0,.int .i64 0,.int .i64 0] 39)
  have hb0:Below w.heap.size w (w.alloc (.cells #[.int .i64 0,.int .i64 0,.int .i64 0] 39)):=by (repeat (first | exact rfl | exact Below.refl _ _ | (with_reducible refine Below.drew ?_) | (with_reducible refine Below.drewN ?_ _) | (with_reducible refine Below.alloc ?_ ?_ _) | (with_reducible refine Below.setCell ?_ ?_ _) | (show _<=_;focus (first | omega | (simp;done) | (simp;omega)))))
  have hs1:=hb1.size
  rw [hz0] at hs1
  have bR1:=(hb1.block w.heap.size (by rw [hz0];omega)).trans bR0
  have hown5:=EO.lit (w:=w1) (base:=w1.heap.size) (Nat.le_refl _) [⟨1,0,0⟩,⟨4,0,0⟩] (by simp)
  have hx5:Below w.heap.size w (w1.alloc (.cells (flatD [⟨1,0,0⟩,⟨4,0,0⟩]).toArray 39)):=(hb0.trans (hb1.mono (by rw [hz0];omega))).alloc (by omega) _
  have bR5:=(Below.heap_alloc w1 (.cells (flatD [⟨1,0,0⟩,⟨4,0,0⟩]).toArray 39) w.heap.size (by omega)).trans bR1
  have hg5:w1.heap.size < (w1.alloc (.cells (flatD [⟨1,0,0⟩,⟨4,0,0⟩]).toArray 39)).heap.size:=by simp
  obtain ⟨b1,o1,rfl,hb1l,hc1⟩:=hA1 (by omega)
  have q1:=hc1 1 (by omega)
  have q2:=hc1 2 (by omega)
  have u1:=(((Below.refl w1.heap.size w1).alloc (Nat.le_refl _) (.cells (flatD [⟨1,0,0⟩,⟨4,0,0⟩]).toArray 39)).cell (p:=⟨b1,o1+1,none⟩) hb1l).trans q1
  have u2:=(((Below.refl w1.heap.size w1).alloc (Nat.le_refl _) (.cells (flatD [⟨1,0,0⟩,⟨4,0,0⟩]).toArray 39)).cell (p:=⟨b1,o1+2,none⟩) hb1l).trans q2
  have hla:(ZS (cutL 32 s) 1).length<=1000000000:=by have:=HL.out 1;omega
  have hlb:(ZS (cutL 32 s) 2).length<=1000000000:=by have:=HL.out 2;omega
  have hsl:w1.heap.size<=(w1.alloc (.cells (flatD [⟨1,0,0⟩,⟨4,0,0⟩]).toArray 39)).heap.size:=by simp
  change Code.wp _ _ _ _ (w1.alloc (.cells (flatD [⟨1,0,0⟩,⟨4,0,0⟩]).toArray 39))
  generalize hw4:(w1.alloc (.cells (flatD [⟨1,0,0⟩,⟨4,0,0⟩]).toArray 39))=w4 at *
  generalize ZS (cutL 32 s) 1=xa at *
  generalize ZS (cutL 32 s) 2=xb at *
  clear hc1 q1 q2 HL hw4 hown1 bR1 hb0 bR0 hz0 hb1
  go_region_held3 (fun w'=>w'.cell? ⟨b1,o1+1,none⟩=some (.string (bs xa))∧w'.cell? ⟨b1,o1+2,none⟩=some (.string (bs xb)))
   (first
     | go_keep
     | exact ⟨(hb6.cell (p:=⟨b1,o1+1,none⟩) hb1l).trans ((((Below.refl w4.heap.size w4).drew.alloc (Nat.le_refl _) _).cell (p:=⟨b1,o1+1,none⟩) (show b1 < w4.heap.size by omega)).trans u1),(hb6.cell (p:=⟨b1,o1+2,none⟩) hb1l).trans ((((Below.refl w4.heap.size w4).drew.alloc (Nat.le_refl _) _).cell (p:=⟨b1,o1+2,none⟩) (show b1 < w4.heap.size by omega)).trans u2)⟩)
   (first
     | (go_at_call 76;refine (HDg.out _ (by assumption) _).mono ?_;rintro e w' ⟨rfl,rfl⟩)
     | (refine step_E (by rfl) (.tmp 16) (.tmp 26) (by rfl) w1.heap.size (.slice (some ⟨w1.heap.size,0,none⟩) 2 2) [⟨1,0,0⟩,⟨4,0,0⟩] 0 (digL xa) (digL xb) w4.heap.size 3 (by rfl) (by rfl) (hown5.drew.alloc _) (by rfl) (heap_alloc_new _ _) (by simp) (Nat.le_trans hsl (by simp)) ?_;intro g5 cap w5 hown6 hgr hb6))
  have hmid:Below w4.heap.size w4 (w4.drew.alloc (.cells #[.int .i64 0,.int .i64 (digL xa),.int .i64 (digL xb)] 39)):=(Below.refl w4.heap.size w4).drew.alloc (Nat.le_refl _) _
  have hzm:=hmid.size
  have hx5:Below w.heap.size w w5:=(hx5.trans (hmid.mono (by omega))).trans (hb6.mono (by omega))
  have bR5:=(hb6.block w.heap.size (by omega)).trans ((hmid.block w.heap.size (by omega)).trans bR5)
  have hg5:=owns_lt hown6 g5 (by simp [Value.ownBlock])
  have hs1:w.heap.size+1<=w5.heap.size:=(Array.getElem?_eq_some_iff.1 bR5).1
  have HC:=Lib.hid (fun k (hk:k < 3)=>(hown6.cells3 k hk))
  have hdl:([⟨1,0,0⟩,⟨4,0,0⟩]++[⟨0,digL xa,digL xb⟩]:List DV).length=3:=rfl
  generalize ([⟨1,0,0⟩,⟨4,0,0⟩]++[⟨0,digL xa,digL xb⟩]:List DV)=ds at *
  clear hb6 hown6 hown5 hmid hzm hgr u1 u2 hb1l hA1
  go_wp2_with fail
  go_loopw [7] (fun i wr=>∃ k:Nat,k<=3∧i=.int .i64 (k:Int)∧Hid (∀ j,j < k->pD s (ZD ds j)=false)∧Below w5.heap.size w5 wr) (fun i _=>3 - (intOf i).toNat)
  case atStart=>exact ⟨0,by omega,rfl,Lib.hid (fun j hj=>by omega),Below.refl _ _⟩
  case round =>
   obtain ⟨k,hk,rfl,HN,hb⟩:=hrel
   have hsz:=hb.size
   have bR:=(hb.block w.heap.size (by omega)).trans bR5
   have p1:(0:Int)<=(k:Int):=by omega
   by_cases hlt:k < 3
   ·have p2:(k:Int) < 3:=by omega
    obtain ⟨c0,c1,c2⟩:=HC.out k hlt
    have d0:=(hb.cell (p:=⟨g5,k * 3,none⟩) hg5).trans c0
    have d1:=(hb.cell (p:=⟨g5,k * 3+1,none⟩) hg5).trans c1
    have d2:=(hb.cell (p:=⟨g5,k * 3+2,none⟩) hg5).trans c2
    clear c0 c1 c2
    obtain ⟨⟨dk,da,db⟩,hd⟩:∃ d,ZD ds k=d:=⟨_,rfl⟩
    rw [hd] at d0 d1 d2
    have HD:=Lib.hid hd
    clear hd
    by_cases hse:s=[]
    ·have hq:(bs s).toList=[]:=by rw [bs_list,hse]
     have HP:=Lib.hid (show pD s (ZD ds k)=false by simp [pD,hse])
     clear hse
     go_wp2_with fail
     go_roundw
     case rel=>exact ⟨k+1,by omega,by go_num,Lib.hid (fun j hj=>by
      rcases Nat.lt_succ_iff_lt_or_eq.1 hj with h | rfl
      ·exact HN.out j h
      ·exact HP.out),hb⟩
     case measure=>simp [intOf];omega
    ·have hq:¬ (bs s).toList=[]:=by rw [bs_list];exact hse
     have HSe:=Lib.hid hse
     clear hse
     go_wp2_with fail
     refine (c_sDeedText _ _ _ _).mono ?_
     rintro e w6 ⟨rfl,hb6⟩
     have hx6:=hb.trans (hb6.mono hsz)
     have hie:(!(bs s).toList.isEmpty)=true:=by simpa using hq
     clear hq
     by_cases hp:deedL ⟨dk,da,db⟩=s
     ·have hdq:((bs (deedL ⟨dk,da,db⟩)).toList == (bs s).toList)=true:=by rw [hp];simp
      have e0:=(hb6.cell (p:=⟨g5,k * 3,none⟩) (show g5 < wr.heap.size by omega)).trans d0
      have e1:=(hb6.cell (p:=⟨g5,k * 3+1,none⟩) (show g5 < wr.heap.size by omega)).trans d1
      have e2:=(hb6.cell (p:=⟨g5,k * 3+2,none⟩) (show g5 < wr.heap.size by omega)).trans d2
      have bR6:=(hb6.block w.heap.size (by omega)).trans bR
      have r0:=cell_of_row _ w.heap.size 0 _ _ _ bR6
      have r1:=cell_of_row _ w.heap.size 1 _ _ _ bR6
      have r2:=cell_of_row _ w.heap.size 2 _ _ _ bR6
      have f0:∀ i,w6.frozen? ⟨w.heap.size,i,none⟩=false:=fun i=>by simp [World.frozen?,bR6]
      have f00:=f0 0
      have f01:=f0 1
      have f02:=f0 2
      have HP:=Lib.hid (show readD s=some ⟨dk,da,db⟩ by rw [HF.out,<- HD.out];exact find_yes (by omega) HN.out (by rw [HD.out];simp [pD,hp,HSe.out]))
      clear hp d0 d1 d2 f0
      go_wp2_with fail
      have b7:=set3 (.int .i64 dk) (.int .i64 da) (.int .i64 db) bR6
      have k0:=cell_of_row _ w.heap.size 0 _ _ _ b7
      have k1:=cell_of_row _ w.heap.size 1 _ _ _ b7
      have k2:=cell_of_row _ w.heap.size 2 _ _ _ b7
      refine bodyPost_ret (v:=.tuple #[.agg #[.int .i64 dk,.int .i64 da,.int .i64 db],.bool true]) (by simp [results,Tryz.f45,go_sem,k0,k1,k2]) rfl ?_
      exact ⟨by rw [HP.out];rfl,(((hx5.trans (hx6.mono hx5.size)).setCell (p:=⟨w.heap.size,0,none⟩) (Nat.le_refl _) _).setCell (p:=⟨w.heap.size,1,none⟩) (Nat.le_refl _) _).setCell (p:=⟨w.heap.size,2,none⟩) (Nat.le_refl _) _⟩
     ·have hdq:((bs (deedL ⟨dk,da,db⟩)).toList == (bs s).toList)=false:=by rw [bs_list,bs_list];simpa using hp
      have HP:=Lib.hid (show pD s (ZD ds k)=false by rw [HD.out];simp [pD,hp])
      clear hp d0 d1 d2
      go_wp2_with fail
      go_roundw
      case rel=>exact ⟨k+1,by omega,by go_num,Lib.hid (fun j hj=>by
       rcases Nat.lt_succ_iff_lt_or_eq.1 hj with h | rfl
       ·exact HN.out j h
       ·exact HP.out),hx6⟩
      case measure=>simp [intOf];omega
   ·have p2:¬ (k:Int) < 3:=by omega
    obtain rfl:k=3:=by omega
    have HP:=Lib.hid (show readD s=none by rw [HF.out];exact find_no (fun j hj=>HN.out j (by omega)))
    have r0:=cell_of_row _ w.heap.size 0 _ _ _ bR
    have r1:=cell_of_row _ w.heap.size 1 _ _ _ bR
    have r2:=cell_of_row _ w.heap.size 2 _ _ _ bR
    have f0:∀ i,wr.frozen? ⟨w.heap.size,i,none⟩=false:=fun i=>by simp [World.frozen?,bR]
    have f00:=f0 0
    have f01:=f0 1
    have f02:=f0 2
    clear f0
    go_wp2_with fail
    have b7:=set3 (.int .i64 0) (.int .i64 0) (.int .i64 0) bR
    have k0:=cell_of_row _ w.heap.size 0 _ _ _ b7
    have k1:=cell_of_row _ w.heap.size 1 _ _ _ b7
    have k2:=cell_of_row _ w.heap.size 2 _ _ _ b7
    refine bodyPost_ret (v:=.tuple #[.agg #[.int .i64 0,.int .i64 0,.int .i64 0],.bool false]) (by simp [results,Tryz.f45,go_sem,k0,k1,k2]) rfl ?_
    exact ⟨by rw [HP.out];rfl,(((hx5.trans (hb.mono hx5.size)).setCell (p:=⟨w.heap.size,0,none⟩) (Nat.le_refl _) _).setCell (p:=⟨w.heap.size,1,none⟩) (Nat.le_refl _) _).setCell (p:=⟨w.heap.size,2,none⟩) (Nat.le_refl _) _⟩
 ·by_cases h2:(cutL 32 s).length=2
  ·have e3:(((cutL 32 s).length:Int) == 3)=false:=beq_eq_false_iff_ne.2 (by omega)
   have e2:(((cutL 32 s).length:Int) == 2)=true:=beq_iff_eq.2 (by omega)
   have hcd:candL s=[⟨1,0,0⟩,⟨4,0,0⟩]++[⟨2,digL (ZS (cutL 32 s) 1),0⟩,⟨3,digL (ZS (cutL 32 s) 1),0⟩]:=by simp [candL,h2,ZS]
   rw [hcd] at HF
   have HDg:=Lib.hid (fun (x:List UInt8) (hx:x.length<=1000000000) W=>show Calls Tryz.prog 76 #[.string (bs x)] W fun e w'=>e=.returned (.int .i64 (digL x))∧w'=W from c_sDigits (bs x) (by rw [bs_size];omega) W)
   have HL:=Lib.hid (fun k=>cut_short s k)
   clear hcd
   go_enter Tryz.func45,Tryz.ntmps45
   go_wp2_with fail
   refine (HCut.out _).mono ?_
   rintro e w1 ⟨v,rfl,hown1,hb1⟩
   obtain ⟨A1,n1,rfl,-,-,hA1⟩:=hown1.form
   obtain ⟨b1,o1,rfl,hb1l,hc1⟩:=hA1 (by omega)
   have q1:=hc1 1 (by omega)
   have u1:=(((Below.refl w1.heap.size w1).alloc (Nat.le_refl _) (.cells (flatD [⟨1,0,0⟩,⟨4,0,0⟩]).toArray 39)).cell (p:=⟨b1,o1+1,none⟩) hb1l).trans q1
   change World.cell? (w1.alloc (.cells #[.int .i64 1,.int .i64 0,.int .i64 0,.int .i64 4,.int .i64 0,.int .i64 0] 39)) _=_ at u1
   have hla:(ZS (cutL 32 s) 1).length<=1000000000:=by have:=HL.out 1;omega
   generalize ZS (cutL 32 s) 1=xa at *
   clear hc1 q1 HL
   go_wp2_with fail
   refine (HDg.out _ hla _).mono ?_
   rintro e w4 ⟨rfl,hw4⟩
   have hz0:(w.alloc (.cells #[.int .i64 0,.int .i64 0,.int .i64 0] 39)).heap.size=w.heap.size+1:=by simp
   have bR0:=heap_alloc_new w (.cells #[.int .i64 0,.int .i64 0,.int .i64 0] 39)
   have hb0:Below w.heap.size w (w.alloc (.cells #[.int .i64 0,.int .i64 0,.int .i64 0] 39)):=by (repeat (first | exact rfl | exact Below.refl _ _ | (with_reducible refine Below.drew ?_) | (with_reducible refine Below.drewN ?_ _) | (with_reducible refine Below.alloc ?_ ?_ _) | (with_reducible refine Below.setCell ?_ ?_ _) | (show _<=_;focus (first | omega | (simp;done) | (simp;omega)))))
   have hs1:=hb1.size
   rw [hz0] at hs1
   have bR1:=(hb1.block w.heap.size (by rw [hz0];omega)).trans bR0
   have hown5:=EO.lit (w:=w1) (base:=w1.heap.size) (Nat.le_refl _) [⟨1,0,0⟩,⟨4,0,0⟩] (by simp)
   have hx5:Below w.heap.size w (w1.alloc (.cells (flatD [⟨1,0,0⟩,⟨4,0,0⟩]).toArray 39)):=(hb0.trans (hb1.mono (by rw [hz0];omega))).alloc (by omega) _
   have bR5:=(Below.heap_alloc w1 (.cells (flatD [⟨1,0,0⟩,⟨4,0,0⟩]).toArray 39) w.heap.size (by omega)).trans bR1
   have hg5:w1.heap.size < (w1.alloc (.cells (flatD [⟨1,0,0⟩,⟨4,0,0⟩]).toArray 39)).heap.size:=by simp
   have hw4':w1.alloc (.cells (flatD [⟨1,0,0⟩,⟨4,0,0⟩]).toArray 39)=w4:=hw4.symm
   have hsl:w1.heap.size<=(w1.alloc (.cells (flatD [⟨1,0,0⟩,⟨4,0,0⟩]).toArray 39)).heap.size:=by simp
   rw [hw4'] at hown5 hx5 bR5 hg5 hsl
   clear hw4' hw4 u1 hown1 hb1 hb1l bR1 hb0 bR0 hz0 HDg hA1
   generalize digL xa=dx at *
   have hmid:Below w4.heap.size w4 (w4.alloc (.cells #[.int .i64 2,.int .i64 dx,.int .i64 0,.int .i64 3,.int .i64 dx,.int .i64 0] 39)):=(Below.refl w4.heap.size w4).alloc (Nat.le_refl _) _
   have hzm:=hmid.size
   go_wp2_with (refine app_EN ?_ (.tmp 35) (.tmp 40) ?_ w1.heap.size (.slice (some ⟨w1.heap.size,0,none⟩) 2 2) [⟨1,0,0⟩,⟨4,0,0⟩] [⟨2,dx,0⟩,⟨3,dx,0⟩] w4.heap.size 2 4 ?_ ?_ ?_ ?_ ?_ ?_ ?_ ?_ ?_ ?_;rfl;rfl;rfl;rfl;rfl;exact (hown5.alloc _);(simp);rfl;exact (heap_alloc_new _ _);(simp);exact (Nat.le_trans hsl hzm);intro g5 cap w5 hown6 hgr hb6)
   have hx5:Below w.heap.size w w5:=(hx5.trans (hmid.mono (by omega))).trans (hb6.mono (by omega))
   have bR5:=(hb6.block w.heap.size (by omega)).trans ((hmid.block w.heap.size (by omega)).trans bR5)
   have hg5:=owns_lt hown6 g5 (by simp [Value.ownBlock])
   have hs1:w.heap.size+1<=w5.heap.size:=(Array.getElem?_eq_some_iff.1 bR5).1
   have HC:=Lib.hid (fun k (hk:k < 4)=>(hown6.cells3 k hk))
   have hdl:([⟨1,0,0⟩,⟨4,0,0⟩]++[⟨2,dx,0⟩,⟨3,dx,0⟩]:List DV).length=4:=rfl
   generalize ([⟨1,0,0⟩,⟨4,0,0⟩]++[⟨2,dx,0⟩,⟨3,dx,0⟩]:List DV)=ds at *
   clear hb6 hown6 hown5 hmid hzm hgr
   go_wp2_with fail
   go_loopw [7] (fun i wr=>∃ k:Nat,k<=4∧i=.int .i64 (k:Int)∧Hid (∀ j,j < k->pD s (ZD ds j)=false)∧Below w5.heap.size w5 wr) (fun i _=>4 - (intOf i).toNat)
   case atStart=>exact ⟨0,by omega,rfl,Lib.hid (fun j hj=>by omega),Below.refl _ _⟩
   case round =>
    obtain ⟨k,hk,rfl,HN,hb⟩:=hrel
    have hsz:=hb.size
    have bR:=(hb.block w.heap.size (by omega)).trans bR5
    have p1:(0:Int)<=(k:Int):=by omega
    by_cases hlt:k < 4
    ·have p2:(k:Int) < 4:=by omega
     obtain ⟨c0,c1,c2⟩:=HC.out k hlt
     have d0:=(hb.cell (p:=⟨g5,k * 3,none⟩) hg5).trans c0
     have d1:=(hb.cell (p:=⟨g5,k * 3+1,none⟩) hg5).trans c1
     have d2:=(hb.cell (p:=⟨g5,k * 3+2,none⟩) hg5).trans c2
     clear c0 c1 c2
     obtain ⟨⟨dk,da,db⟩,hd⟩:∃ d,ZD ds k=d:=⟨_,rfl⟩
     rw [hd] at d0 d1 d2
     have HD:=Lib.hid hd
     clear hd
     by_cases hse:s=[]
     ·have hq:(bs s).toList=[]:=by rw [bs_list,hse]
      have HP:=Lib.hid (show pD s (ZD ds k)=false by simp [pD,hse])
      clear hse
      go_wp2_with fail
      go_roundw
      case rel=>exact ⟨k+1,by omega,by go_num,Lib.hid (fun j hj=>by
       rcases Nat.lt_succ_iff_lt_or_eq.1 hj with h | rfl
       ·exact HN.out j h
       ·exact HP.out),hb⟩
      case measure=>simp [intOf];omega
     ·have hq:¬ (bs s).toList=[]:=by rw [bs_list];exact hse
      have HSe:=Lib.hid hse
      clear hse
      go_wp2_with fail
      refine (c_sDeedText _ _ _ _).mono ?_
      rintro e w6 ⟨rfl,hb6⟩
      have hx6:=hb.trans (hb6.mono hsz)
      have hie:(!(bs s).toList.isEmpty)=true:=by simpa using hq
      clear hq
      by_cases hp:deedL ⟨dk,da,db⟩=s
      ·have hdq:((bs (deedL ⟨dk,da,db⟩)).toList == (bs s).toList)=true:=by rw [hp];simp
       have e0:=(hb6.cell (p:=⟨g5,k * 3,none⟩) (show g5 < wr.heap.size by omega)).trans d0
       have e1:=(hb6.cell (p:=⟨g5,k * 3+1,none⟩) (show g5 < wr.heap.size by omega)).trans d1
       have e2:=(hb6.cell (p:=⟨g5,k * 3+2,none⟩) (show g5 < wr.heap.size by omega)).trans d2
       have bR6:=(hb6.block w.heap.size (by omega)).trans bR
       have r0:=cell_of_row _ w.heap.size 0 _ _ _ bR6
       have r1:=cell_of_row _ w.heap.size 1 _ _ _ bR6
       have r2:=cell_of_row _ w.heap.size 2 _ _ _ bR6
       have f0:∀ i,w6.frozen? ⟨w.heap.size,i,none⟩=false:=fun i=>by simp [World.frozen?,bR6]
       have f00:=f0 0
       have f01:=f0 1
       have f02:=f0 2
       have HP:=Lib.hid (show readD s=some ⟨dk,da,db⟩ by rw [HF.out,<- HD.out];exact find_yes (by omega) HN.out (by rw [HD.out];simp [pD,hp,HSe.out]))
       clear hp d0 d1 d2 f0
       go_wp2_with fail
       have b7:=set3 (.int .i64 dk) (.int .i64 da) (.int .i64 db) bR6
       have k0:=cell_of_row _ w.heap.size 0 _ _ _ b7
       have k1:=cell_of_row _ w.heap.size 1 _ _ _ b7
       have k2:=cell_of_row _ w.heap.size 2 _ _ _ b7
       refine bodyPost_ret (v:=.tuple #[.agg #[.int .i64 dk,.int .i64 da,.int .i64 db],.bool true]) (by simp [results,Tryz.f45,go_sem,k0,k1,k2]) rfl ?_
       exact ⟨by rw [HP.out];rfl,(((hx5.trans (hx6.mono hx5.size)).setCell (p:=⟨w.heap.size,0,none⟩) (Nat.le_refl _) _).setCell (p:=⟨w.heap.size,1,none⟩) (Nat.le_refl _) _).setCell (p:=⟨w.heap.size,2,none⟩) (Nat.le_refl _) _⟩
      ·have hdq:((bs (deedL ⟨dk,da,db⟩)).toList == (bs s).toList)=false:=by rw [bs_list,bs_list];simpa using hp
       have HP:=Lib.hid (show pD s (ZD ds k)=false by rw [HD.out];simp [pD,hp])
       clear hp d0 d1 d2
       go_wp2_with fail
       go_roundw
       case rel=>exact ⟨k+1,by omega,by go_num,Lib.hid (fun j hj=>by
        rcases Nat.lt_succ_iff_lt_or_eq.1 hj with h | rfl
        ·exact HN.out j h
        ·exact HP.out),hx6⟩
       case measure=>simp [intOf];omega
    ·have p2:¬ (k:Int) < 4:=by omega
     obtain rfl:k=4:=by omega
     have HP:=Lib.hid (show readD s=none by rw [HF.out];exact find_no (fun j hj=>HN.out j (by omega)))
     have r0:=cell_of_row _ w.heap.size 0 _ _ _ bR
     have r1:=cell_of_row _ w.heap.size 1 _ _ _ bR
     have r2:=cell_of_row _ w.heap.size 2 _ _ _ bR
     have f0:∀ i,wr.frozen? ⟨w.heap.size,i,none⟩=false:=fun i=>by simp [World.frozen?,bR]
     have f00:=f0 0
     have f01:=f0 1
     have f02:=f0 2
     clear f0
     go_wp2_with fail
     have b7:=set3 (.int .i64 0) (.int .i64 0) (.int .i64 0) bR
     have k0:=cell_of_row _ w.heap.size 0 _ _ _ b7
     have k1:=cell_of_row _ w.heap.size 1 _ _ _ b7
     have k2:=cell_of_row _ w.heap.size 2 _ _ _ b7
     refine bodyPost_ret (v:=.tuple #[.agg #[.int .i64 0,.int .i64 0,.int .i64 0],.bool false]) (by simp [results,Tryz.f45,go_sem,k0,k1,k2]) rfl ?_
     exact ⟨by rw [HP.out];rfl,(((hx5.trans (hb.mono hx5.size)).setCell (p:=⟨w.heap.size,0,none⟩) (Nat.le_refl _) _).setCell (p:=⟨w.heap.size,1,none⟩) (Nat.le_refl _) _).setCell (p:=⟨w.heap.size,2,none⟩) (Nat.le_refl _) _⟩
  ·have e3:(((cutL 32 s).length:Int) == 3)=false:=beq_eq_false_iff_ne.2 (by omega)
   have e2:(((cutL 32 s).length:Int) == 2)=false:=beq_eq_false_iff_ne.2 (by omega)
   have hcd:candL s=[⟨1,0,0⟩,⟨4,0,0⟩]:=by simp [candL,h3,h2]
   rw [hcd] at HF
   clear hcd h3 h2
   go_enter Tryz.func45,Tryz.ntmps45
   go_wp2_with fail
   refine (HCut.out _).mono ?_
   rintro e w1 ⟨v,rfl,hown1,hb1⟩
   obtain ⟨A1,n1,rfl,-,-,hA1⟩:=hown1.form
   go_wp2_with fail
   have hz0:(w.alloc (.cells #[.int .i64 0,.int .i64 0,.int .i64 0] 39)).heap.size=w.heap.size+1:=by simp
   have bR0:=heap_alloc_new w (.cells #[.int .i64 0,.int .i64 0,.int .i64 0] 39)
   have hb0:Below w.heap.size w (w.alloc (.cells #[.int .i64 0,.int .i64 0,.int .i64 0] 39)):=by (repeat (first | exact rfl | exact Below.refl _ _ | (with_reducible refine Below.drew ?_) | (with_reducible refine Below.drewN ?_ _) | (with_reducible refine Below.alloc ?_ ?_ _) | (with_reducible refine Below.setCell ?_ ?_ _) | (show _<=_;focus (first | omega | (simp;done) | (simp;omega)))))
   have hs1:=hb1.size
   rw [hz0] at hs1
   have bR1:=(hb1.block w.heap.size (by rw [hz0];omega)).trans bR0
   have hown5:=EO.lit (w:=w1) (base:=w1.heap.size) (Nat.le_refl _) [⟨1,0,0⟩,⟨4,0,0⟩] (by simp)
   have hx5:Below w.heap.size w (w1.alloc (.cells (flatD [⟨1,0,0⟩,⟨4,0,0⟩]).toArray 39)):=(hb0.trans (hb1.mono (by rw [hz0];omega))).alloc (by omega) _
   have bR5:=(Below.heap_alloc w1 (.cells (flatD [⟨1,0,0⟩,⟨4,0,0⟩]).toArray 39) w.heap.size (by omega)).trans bR1
   have hg5:w1.heap.size < (w1.alloc (.cells (flatD [⟨1,0,0⟩,⟨4,0,0⟩]).toArray 39)).heap.size:=by simp
   change Code.wp _ _ _ _ (w1.alloc (.cells (flatD [⟨1,0,0⟩,⟨4,0,0⟩]).toArray 39))
   generalize (w1.alloc (.cells (flatD [⟨1,0,0⟩,⟨4,0,0⟩]).toArray 39))=w5 at *
   generalize w1.heap.size=g5 at *
   have HC:=Lib.hid (fun k (hk:k < 2)=>(hown5.cells3 k hk))
   have hdl:([⟨1,0,0⟩,⟨4,0,0⟩]:List DV).length=2:=rfl
   generalize ([⟨1,0,0⟩,⟨4,0,0⟩]:List DV)=ds at *
   clear hb1 hown1 hA1 hown5 bR1 hb0 bR0 hz0
   go_wp2_with fail
   go_loopw [7] (fun i wr=>∃ k:Nat,k<=2∧i=.int .i64 (k:Int)∧Hid (∀ j,j < k->pD s (ZD ds j)=false)∧Below w5.heap.size w5 wr) (fun i _=>2 - (intOf i).toNat)
   case atStart=>exact ⟨0,by omega,rfl,Lib.hid (fun j hj=>by omega),Below.refl _ _⟩
   case round =>
    obtain ⟨k,hk,rfl,HN,hb⟩:=hrel
    have hsz:=hb.size
    have bR:=(hb.block w.heap.size (by omega)).trans bR5
    have p1:(0:Int)<=(k:Int):=by omega
    by_cases hlt:k < 2
    ·have p2:(k:Int) < 2:=by omega
     obtain ⟨c0,c1,c2⟩:=HC.out k hlt
     have d0:=(hb.cell (p:=⟨g5,k * 3,none⟩) hg5).trans c0
     have d1:=(hb.cell (p:=⟨g5,k * 3+1,none⟩) hg5).trans c1
     have d2:=(hb.cell (p:=⟨g5,k * 3+2,none⟩) hg5).trans c2
     clear c0 c1 c2
     obtain ⟨⟨dk,da,db⟩,hd⟩:∃ d,ZD ds k=d:=⟨_,rfl⟩
     rw [hd] at d0 d1 d2
     have HD:=Lib.hid hd
     clear hd
     by_cases hse:s=[]
     ·have hq:(bs s).toList=[]:=by rw [bs_list,hse]
      have HP:=Lib.hid (show pD s (ZD ds k)=false by simp [pD,hse])
      clear hse
      go_wp2_with fail
      go_roundw
      case rel=>exact ⟨k+1,by omega,by go_num,Lib.hid (fun j hj=>by
       rcases Nat.lt_succ_iff_lt_or_eq.1 hj with h | rfl
       ·exact HN.out j h
       ·exact HP.out),hb⟩
      case measure=>simp [intOf];omega
     ·have hq:¬ (bs s).toList=[]:=by rw [bs_list];exact hse
      have HSe:=Lib.hid hse
      clear hse
      go_wp2_with fail
      refine (c_sDeedText _ _ _ _).mono ?_
      rintro e w6 ⟨rfl,hb6⟩
      have hx6:=hb.trans (hb6.mono hsz)
      have hie:(!(bs s).toList.isEmpty)=true:=by simpa using hq
      clear hq
      by_cases hp:deedL ⟨dk,da,db⟩=s
      ·have hdq:((bs (deedL ⟨dk,da,db⟩)).toList == (bs s).toList)=true:=by rw [hp];simp
       have e0:=(hb6.cell (p:=⟨g5,k * 3,none⟩) (show g5 < wr.heap.size by omega)).trans d0
       have e1:=(hb6.cell (p:=⟨g5,k * 3+1,none⟩) (show g5 < wr.heap.size by omega)).trans d1
       have e2:=(hb6.cell (p:=⟨g5,k * 3+2,none⟩) (show g5 < wr.heap.size by omega)).trans d2
       have bR6:=(hb6.block w.heap.size (by omega)).trans bR
       have r0:=cell_of_row _ w.heap.size 0 _ _ _ bR6
       have r1:=cell_of_row _ w.heap.size 1 _ _ _ bR6
       have r2:=cell_of_row _ w.heap.size 2 _ _ _ bR6
       have f0:∀ i,w6.frozen? ⟨w.heap.size,i,none⟩=false:=fun i=>by simp [World.frozen?,bR6]
       have f00:=f0 0
       have f01:=f0 1
       have f02:=f0 2
       have HP:=Lib.hid (show readD s=some ⟨dk,da,db⟩ by rw [HF.out,<- HD.out];exact find_yes (by omega) HN.out (by rw [HD.out];simp [pD,hp,HSe.out]))
       clear hp d0 d1 d2 f0
       go_wp2_with fail
       have b7:=set3 (.int .i64 dk) (.int .i64 da) (.int .i64 db) bR6
       have k0:=cell_of_row _ w.heap.size 0 _ _ _ b7
       have k1:=cell_of_row _ w.heap.size 1 _ _ _ b7
       have k2:=cell_of_row _ w.heap.size 2 _ _ _ b7
       refine bodyPost_ret (v:=.tuple #[.agg #[.int .i64 dk,.int .i64 da,.int .i64 db],.bool true]) (by simp [results,Tryz.f45,go_sem,k0,k1,k2]) rfl ?_
       exact ⟨by rw [HP.out];rfl,(((hx5.trans (hx6.mono hx5.size)).setCell (p:=⟨w.heap.size,0,none⟩) (Nat.le_refl _) _).setCell (p:=⟨w.heap.size,1,none⟩) (Nat.le_refl _) _).setCell (p:=⟨w.heap.size,2,none⟩) (Nat.le_refl _) _⟩
      ·have hdq:((bs (deedL ⟨dk,da,db⟩)).toList == (bs s).toList)=false:=by rw [bs_list,bs_list];simpa using hp
       have HP:=Lib.hid (show pD s (ZD ds k)=false by rw [HD.out];simp [pD,hp])
       clear hp d0 d1 d2
       go_wp2_with fail
       go_roundw
       case rel=>exact ⟨k+1,by omega,by go_num,Lib.hid (fun j hj=>by
        rcases Nat.lt_succ_iff_lt_or_eq.1 hj with h | rfl
        ·exact HN.out j h
        ·exact HP.out),hx6⟩
       case measure=>simp [intOf];omega
    ·have p2:¬ (k:Int) < 2:=by omega
     obtain rfl:k=2:=by omega
     have HP:=Lib.hid (show readD s=none by rw [HF.out];exact find_no (fun j hj=>HN.out j (by omega)))
     have r0:=cell_of_row _ w.heap.size 0 _ _ _ bR
     have r1:=cell_of_row _ w.heap.size 1 _ _ _ bR
     have r2:=cell_of_row _ w.heap.size 2 _ _ _ bR
     have f0:∀ i,wr.frozen? ⟨w.heap.size,i,none⟩=false:=fun i=>by simp [World.frozen?,bR]
     have f00:=f0 0
     have f01:=f0 1
     have f02:=f0 2
     clear f0
     go_wp2_with fail
     have b7:=set3 (.int .i64 0) (.int .i64 0) (.int .i64 0) bR
     have k0:=cell_of_row _ w.heap.size 0 _ _ _ b7
     have k1:=cell_of_row _ w.heap.size 1 _ _ _ b7
     have k2:=cell_of_row _ w.heap.size 2 _ _ _ b7
     refine bodyPost_ret (v:=.tuple #[.agg #[.int .i64 0,.int .i64 0,.int .i64 0],.bool false]) (by simp [results,Tryz.f45,go_sem,k0,k1,k2]) rfl ?_
     exact ⟨by rw [HP.out];rfl,(((hx5.trans (hb.mono hx5.size)).setCell (p:=⟨w.heap.size,0,none⟩) (Nat.le_refl _) _).setCell (p:=⟨w.heap.size,1,none⟩) (Nat.le_refl _) _).setCell (p:=⟨w.heap.size,2,none⟩) (Nat.le_refl _) _⟩
end
section
def HdO (w:World) (base:Nat) (v:Value) (hs:List Value):Prop:=w.ownsRow base 28 1 v hs.length hs
def RdH (w:World) (B:Nat) (hs:List Value) (Ls:List (List (Int×Int))):Prop :=
 hs.length=Ls.length∧∀ k,k < Ls.length->∃ A c,hs.getD k undef=.slice A (LL Ls k).length c∧(LL Ls k).length<=c∧Cs w B A (LL Ls k)
theorem RdH.below {w w':World} {B:Nat} {hs:List Value} {Ls:List (List (Int×Int))} (h:RdH w B hs Ls) (hb:Below B w w'):RdH w' B hs Ls :=
 ⟨h.1,fun k hk=>by obtain ⟨A,c,h1,h2,h3⟩:=h.2 k hk;exact ⟨A,c,h1,h2,h3.below hb⟩⟩
theorem RdH.more {w:World} {B B':Nat} {hs:List Value} {Ls:List (List (Int×Int))} (h:RdH w B hs Ls) (hb:B<=B'):RdH w B' hs Ls :=
 ⟨h.1,fun k hk=>by obtain ⟨A,c,h1,h2,h3⟩:=h.2 k hk;exact ⟨A,c,h1,h2,h3.more hb⟩⟩
theorem RdH.one {w:World} {B:Nat} {hs:List Value} {Ls:List (List (Int×Int))} (h:RdH w B hs Ls):∀ u ∈ hs,u.oneCell'=true:=by
 intro u hu
 obtain ⟨k,hk,rfl⟩:=List.getElem_of_mem hu
 obtain ⟨A,c,h1,_,_⟩:=h.2 k (by rw [<- h.1];exact hk)
 rw [List.getD_eq_getElem?_getD,List.getElem?_eq_getElem hk,Option.getD_some] at h1
 rw [h1];rfl
theorem LL_app {Ls:List (List (Int×Int))} (L:List (Int×Int)) {k:Nat} (hk:k < Ls.length+1):LL (Ls++[L]) k=if k=Ls.length then L else LL Ls k:=by
 by_cases h:k=Ls.length
 ·subst h;simp [LL]
 ·rw [if_neg h];simp [LL,List.getElem?_append_left (show k < Ls.length by omega)]
theorem RdH.snoc {w:World} {B:Nat} {hs:List Value} {Ls:List (List (Int×Int))} (h:RdH w B hs Ls) {A:Option Addr} {c:Nat} {L:List (Int×Int)} (hc:L.length<=c) (hA:Cs w B A L):RdH w B (hs++[.slice A L.length c]) (Ls++[L]):=by
 refine ⟨by simp [h.1],fun k hk=>?_⟩
 rw [List.length_append,List.length_singleton] at hk
 rw [LL_app L hk]
 by_cases e:k=Ls.length
 ·rw [if_pos e]
  refine ⟨A,c,?_,hc,hA⟩
  rw [e,<- h.1];simp
 ·rw [if_neg e]
  obtain ⟨A',c',h1,h2,h3⟩:=h.2 k (by omega)
  exact ⟨A',c',by rw [<- h1];simp [List.getD_eq_getElem?_getD,List.getElem?_append_left (show k < hs.length by rw [h.1];omega)],h2,h3⟩
theorem RdH.nil (w:World) (B:Nat):RdH w B [] []:=⟨rfl,fun k hk=>by simp at hk⟩
theorem Css.hdrs {w:World} {B:Nat} {A:Option Addr} {Ls:List (List (Int×Int))} (h:Css w B A Ls):∃ hs,RdH w B hs Ls∧(0 < hs.length->∃ b off,A=some ⟨b,off,none⟩∧∀ j u,hs[j]?=some u->w.cell? ((⟨b,off,none⟩:Addr).add j)=some u):=by
 by_cases hp:0 < Ls.length
 ·obtain ⟨b,off,rfl,hlt,hc⟩:=h hp
  refine ⟨(List.range Ls.length).map fun k=>(w.cell? ⟨b,off+k,none⟩).getD undef,⟨by simp,fun k hk=>?_⟩,fun _=>⟨b,off,rfl,fun j u hj=>?_⟩⟩
  ·obtain ⟨Ak,ck,h1,h2,h3⟩:=hc k hk
   exact ⟨Ak,ck,by simp [List.getD_eq_getElem?_getD,hk,h1],h2,h3⟩
  ·have hjl:j < Ls.length:=by have:=(List.getElem?_eq_some_iff.1 hj).1;simpa using this
   obtain ⟨Ak,ck,h1,h2,h3⟩:=hc j hjl
   have e:(⟨b,off,none⟩:Addr).add j=⟨b,off+j,none⟩:=by by_cases e:j=0 <;> simp [Addr.add,e]
   rw [e,h1]
   simp [hjl,h1] at hj
   rw [hj]
 ·have h0:Ls=[]:=List.eq_nil_of_length_eq_zero (by omega)
  subst h0
  exact ⟨[],RdH.nil _ _,fun h=>by simp at h⟩
theorem HdO.alloc {w:World} {base:Nat} {v:Value} {hs:List Value} (h:HdO w base v hs) (o:Obj):HdO (w.alloc o) base v hs:=World.ownsRow.alloc h o
theorem HdO.below {w w':World} {base B:Nat} {v:Value} {hs:List Value} (h:HdO w base v hs) (hb:Below B w w') (hB:w.heap.size<=B):HdO w' base v hs:=owns_below h hb hB
theorem HdO.mono {w:World} {base base':Nat} {v:Value} {hs:List Value} (h:HdO w base v hs) (hB:base'<=base):HdO w base' v hs:=owns_mono h hB
theorem HdO.nil (w:World) (base:Nat):HdO w base (.slice none 0 0) []:=⟨rfl,.inl ⟨rfl,rfl⟩⟩
theorem HdO.empty (w:World) {base:Nat} (h:base<=w.heap.size):HdO (w.alloc (.cells #[] 28)) base (.slice (some ⟨w.heap.size,0,none⟩) 0 0) []:=(COO.empty w h).row
theorem HdO.form {w:World} {base:Nat} {v:Value} {hs:List Value} (h:HdO w base v hs) :
  ∃ A c,v=.slice A hs.length c∧hs.length<=c∧c<=maxLen∧(0 < hs.length->∃ g,A=some ⟨g,0,none⟩∧base<=g∧g < w.heap.size∧∀ k,k < hs.length->w.cell? ⟨g,k,none⟩=some (hs.getD k undef)):=by
 have hl:=owns_lt h
 rcases h.2 with ⟨rfl,h0⟩ | ⟨g,cap,cur,rfl,hg,hh,h1,h2,h3,h4⟩
 ·exact ⟨none,0,by rw [h0],by omega,by simp [maxLen],fun hp=>by omega⟩
 ·refine ⟨_,cap,rfl,h1,h2,fun _=>⟨g,rfl,hg,hl g (by simp [Value.ownBlock]),fun k hk=>?_⟩⟩
  rw [World.ownsRow.cellAt h k (by omega)]
  simp [List.getD,List.getElem?_eq_getElem hk]
theorem HdO.css {w:World} {base:Nat} {v:Value} {hs:List Value} {Ls:List (List (Int×Int))} (h:HdO w base v hs) (hr:RdH w w.heap.size hs Ls) :
  ∃ A c,v=.slice A Ls.length c∧Ls.length<=c∧Css w w.heap.size A Ls∧(0 < Ls.length->∃ g,A=some ⟨g,0,none⟩):=by
 obtain ⟨A,c,e,h1,-,h2⟩:=h.form
 have hn:=hr.1
 rw [hn] at e h1 h2
 refine ⟨A,c,e,h1,fun hp=>?_,fun hp=>by obtain ⟨g,rfl,-⟩:=h2 hp;exact ⟨g,rfl⟩⟩
 obtain ⟨g,rfl,-,hg,hc⟩:=h2 hp
 refine ⟨g,0,rfl,hg,fun k hk=>?_⟩
 obtain ⟨Ak,ck,h3,h4,h5⟩:=hr.2 k hk
 exact ⟨Ak,ck,by rw [Nat.zero_add,hc k hk,h3],h4,h5⟩
theorem Css.drop {w:World} {B b off:Nat} {Ls:List (List (Int×Int))} (h:Css w B (some ⟨b,off,none⟩) Ls) (m:Nat):Css w B (some ⟨b,off+m,none⟩) (Ls.drop m):=by
 intro hp
 rw [List.length_drop] at hp
 obtain ⟨b',off',e,hlt,hc⟩:=h (by omega)
 cases e
 refine ⟨b,off+m,rfl,hlt,fun k hk=>?_⟩
 rw [List.length_drop] at hk
 have e:LL (Ls.drop m) k=LL Ls (m+k):=by simp [LL,List.getD_eq_getElem?_getD]
 rw [e,Nat.add_assoc]
 exact hc (m+k) (by omega)
theorem Css.take {w:World} {B:Nat} {A:Option Addr} {Ls:List (List (Int×Int))} (h:Css w B A Ls) (m:Nat):Css w B A (Ls.take m):=by
 intro hp
 rw [List.length_take] at hp
 obtain ⟨b',off',e,hlt,hc⟩:=h (by omega)
 refine ⟨b',off',e,hlt,fun k hk=>?_⟩
 rw [List.length_take] at hk
 have e:LL (Ls.take m) k=LL Ls k:=by simp [LL,List.getD_eq_getElem?_getD,List.getElem?_take_of_lt (show k < m by omega)]
 rw [e]
 exact hc k (by omega)
theorem Cs_take {w:World} {B:Nat} {A:Option Addr} {L:List (Int×Int)} (h:Cs w B A L) (m:Nat):Cs w B A (L.take m):=by
 intro hp
 rw [List.length_take] at hp
 obtain ⟨b',off',e,hlt,hc⟩:=h (by omega)
 refine ⟨b',off',e,hlt,fun k hk=>?_⟩
 rw [List.length_take] at hk
 have e1:X (L.take m) k=X L k:=by simp [X,List.getElem?_take_of_lt (show k < m by omega)]
 have e2:Y (L.take m) k=Y L k:=by simp [Y,List.getElem?_take_of_lt (show k < m by omega)]
 rw [e1,e2]
 exact hc k (by omega)
section
variable {w:World}
theorem app_HN {ops:Array Oper} {rest:List Oper} {o:Oper} {a:Act} {Q:Exit->Act->World->Prop} (hw:Region.wanted o (yielded ops a.tmps)=true) (s x:Operand)
  (ho:o.op=.call { callee:=.builtin .append,args:=#[s,x],argTypes:=#[29,29] })
  (base:Nat) (v:Value) (M L:List Value) (A:Option Addr) (c m k:Nat) (hs:a.eval s=v) (hown:HdO w base v M) (hx:a.eval x=.slice A m c) (hm:L.length=m) (hk:M.length+m=k)
  (hI:0 < L.length->∃ b off,A=some ⟨b,off,none⟩∧∀ j u,L[j]?=some u->w.cell? ((⟨b,off,none⟩:Addr).add j)=some u) (hone:∀ u ∈ L,u.oneCell'=true) (hlen:k<=1000000000) (hbase:base<=w.heap.size)
  (h:∀ G cap w',HdO w' base (.slice G k cap) (M++L)->w.grownBy w' v.ownBlock->Below base w w'->wpList Tryz.prog ops Q rest (a.put o.dst (.slice G k cap)) w') :
  wpList Tryz.prog ops Q (o::rest) a w:=by
 subst hm hk
 obtain ⟨i0,hi,hz0,hz1,hz2⟩:=info_parts infoCS
 show if Region.wanted o (yielded ops a.tmps) then _ else _
 rw [if_pos hw]
 refine Or.inl ?_
 by_cases hp:0 < L.length
 ·obtain ⟨b,off,rfl,hc⟩:=hI hp
  refine wp_append_lies w s x _ ho base 28 i0 _ 1 24 Tryz.underlying29 hi hz0 hz1 hz2 rfl (by decide) v M.length _ hs hown
   ⟨b,off,none⟩ L.length c L hx (by simp) hc hone hp (by simp only [maxLen];omega) (by omega) hbase _ rfl ?_
  intro g cap w' h1 h2 _ _
  exact h (some ⟨g,0,none⟩) cap w' (by simpa [HdO] using h1) h2 ((Below.refl _ _).grown h2 hbase (owns_base hown))
 ·have h0:L=[]:=List.eq_nil_of_length_eq_zero (by omega)
  subst h0
  obtain ⟨G,g,rfl,hg1,-,-⟩:=hown.form
  have hsrc:Src Tryz.prog i0.size 29 (.slice A 0 c) 0 [] w:=⟨.inl ⟨_,Tryz.underlying29⟩,fun w'=>by simp [Builtin.lenOf],by cases A <;> simp [Builtin.firstCells,loadCells,loadCellsFrom],by cases A <;> simp [Builtin.firstCells,loadCells,loadCellsFrom],by simp,fun u hu=>by cases hu⟩
  have hr:=run_append_nothing (P:=Tryz.prog) w 29 29 o.type 28 i0 Tryz.underlying29 hi G M.length g hg1 (.slice A 0 c) hsrc
  have hx':a.eval x=.slice A 0 c:=hx
  unfold Oper.wp execOp
  simp only [ho,resolve,invoke,builtin,Sem.run_bind,Sem.run_pure,Result.andThen_ok,List.map_toArray,List.map_cons,List.map_nil,hs,hx',hr]
  exact h G g w (by simpa using hown) ⟨rfl,rfl,rfl,Nat.le_refl _,fun _ _ _=>rfl⟩ (Below.refl _ _)
theorem step_H1 {ops:Array Oper} {o:Oper} {a:Act} {K:Act->World->Prop} {Q:Exit->Act->World->Prop} {E:Prop} (hgd:o.guard=none) (s x:Operand)
  (ho:o.op=.call { callee:=.builtin .append,args:=#[s,x],argTypes:=#[29,29] })
  (base:Nat) (v:Value) (M:List Value) (sl:Value) (B k:Nat) (hs:a.eval s=v) (hown:HdO w base v M) (hone:sl.oneCell'=true) (hx:a.eval x=.slice (some ⟨B,0,none⟩) 1 1)
  (hB:w.heap[B]?=some (.cells #[sl] 28 (0,0))) (hk:M.length+1=k) (hlen:M.length<=1000000000) (hbase:base<=w.heap.size)
  (h:∀ g cap w',HdO w' base (.slice (some ⟨g,0,none⟩) k cap) (M++[sl])->w.grownBy w' v.ownBlock->Below base w w'->K (a.put o.dst (.slice (some ⟨g,0,none⟩) k cap)) w') :
  if Region.wanted o (yielded ops a.tmps)=true then Oper.wp Tryz.prog o a w K Q else E:=by
 subst hk
 obtain ⟨i0,hi0,hz0,hz1,hz2⟩:=info_parts infoCS
 refine step_append_lies w hgd s x _ ho base 28 i0 _ 1 24 Tryz.underlying29 hi0 hz0 hz1 hz2 rfl (by decide) v M.length _ hs hown
  ⟨B,0,none⟩ 1 1 [sl] hx rfl (World.news_of_block (cs:=#[sl]) hB) (by simpa using hone) (by decide) (by simp only [maxLen];omega) (by omega) hbase _ rfl ?_
 intro g cap w' h1 h2 h3 _
 exact h g cap w' (by simpa [HdO] using h1) h2 ((Below.refl _ _).grown h2 hbase (owns_base hown))
end
end
section
theorem hsetA {w:World} {R:Nat} {t:TypeId} {x y:Value} (q:Value) (h:w.heap[R]?=some (.cells #[x,y] t (0,0))):(w.setCell ⟨R,0,none⟩ q).heap[R]?=some (.cells #[q,y] t (0,0)):=by
 obtain ⟨hlt,he⟩:=Array.getElem?_eq_some_iff.1 h
 rw [Array.getElem?_eq_getElem (by simpa [World.setCell] using hlt)]
 simp [World.setCell,Array.getElem_modify,he]
theorem hsetB {w:World} {R:Nat} {t:TypeId} {x y:Value} (q:Value) (h:w.heap[R]?=some (.cells #[x,y] t (0,0))):(w.setCell ⟨R,1,none⟩ q).heap[R]?=some (.cells #[x,q] t (0,0)):=by
 obtain ⟨hlt,he⟩:=Array.getElem?_eq_some_iff.1 h
 rw [Array.getElem?_eq_getElem (by simpa [World.setCell] using hlt)]
 simp [World.setCell,Array.getElem_modify,he]
theorem unfrozenB {w:World} {R i:Nat} {cs:Array Value} {t:TypeId} (h:w.heap[R]?=some (.cells cs t (0,0))):w.frozen? ⟨R,i,none⟩=false:=by simp [World.frozen?,h]
theorem put2 {w:World} {R:Nat} {t:TypeId} {p q:Value} (x y:Value) (h:w.heap[R]?=some (.cells #[p,q] t (0,0))):((w.setCell ⟨R,0,none⟩ x).setCell ⟨R,1,none⟩ y).cell? ⟨R,0,none⟩=some x∧((w.setCell ⟨R,0,none⟩ x).setCell ⟨R,1,none⟩ y).cell? ⟨R,1,none⟩=some y:=by
 have b:=hsetB y (hsetA x h)
 exact ⟨cell_of_row _ R 0 _ _ _ b,cell_of_row _ R 1 _ _ _ b⟩
theorem far2 (w:World) (B:Nat) (x y:Value) (k:Nat) (h:k≠B):((w.setCell ⟨B,0,none⟩ x).setCell ⟨B,1,none⟩ y).heap[k]?=w.heap[k]?:=(Below.heap_setCell _ _ _ _ h).trans (Below.heap_setCell _ _ _ _ h)
theorem newK (w:World) (o p:Obj):((w.alloc o).alloc p).heap[w.heap.size+1]?=some p:=by
 have h:=heap_alloc_new (w.alloc o) p
 rwa [show (w.alloc o).heap.size=w.heap.size+1 by simp] at h
end
end Go.Proofs.YthpccmkagikhjaaGreatDoor

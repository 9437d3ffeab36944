import Derived.Test.YticccnkanihpnaaDoorQExactReadJournal1
import Derived.Test.YticccnkanihpnaaDoorQExactReadJournal2
import Derived.Below
import Derived.RegionCalls
import Derived.Lib.SliceRun
import Derived.Shelf.Strings.Builder1
import Derived.Shelf.Strings.BuilderF
import Derived.Shelf.Strings.BuilderK
import Derived.Shelf.Strconv.Atoi
import Derived.Shelf.Strconv.Itoa0
import Derived.Shelf.Strconv.Itoa1
import Derived.Shelf.LaysM
import Derived.Shelf.Strconv.Itoa2
import Derived.Shelf.Strconv.Itoa3
import Derived.Shelf.Strconv.AtoiErrFast
import Derived.Shelf.Strconv.ParseIntEmpty
import Derived.Shelf.Strconv.AtoiFail
import Derived.Shelf.Strconv.Clone
import Derived.Shelf.Strconv.SyntaxError
import Derived.Shelf.LaysC
import Derived.Shelf.Strconv.ToError
import Derived.Shelf.Strconv.AtoiErr
import Derived.Shelf.Strconv.ErrVar
import Derived.Shelf.Strconv.Lower
import Derived.Shelf.Strconv.ParseUint10
import Derived.Shelf.Strconv.ParseUint10Empty
import Derived.Shelf.Strconv.ParseUint10Any
import Derived.Shelf.Strconv.ParseInt10
import Derived.Shelf.Strconv.AtoiLong
import Derived.Shelf.Strconv.AtoiInnerAll
import Derived.Shelf.Strconv.RangeError
import Derived.Shelf.Strconv.ToErrorRange
import Derived.Shelf.Strconv.AtoiAll
import Derived.Shelf.Strconv.ErrVarAll
import Derived.Shelf.Strings.Search1
import Derived.Shelf.Strings.Search2
import Derived.Shelf.Strings.Search3
import Derived.Shelf.Strings.Cut
import Derived.Shelf.Strings.Count
import Derived.Shelf.Strings.Shaped
import Derived.Shelf.Strings.Split
import Derived.Shelf.Strings.SplitShaped
import Derived.Shelf.Unicode.DecodeSlow
import Derived.Test.YticccnkanihpnaaDoorProg
import Derived.Lib.IndexMore
import Derived.Lib.Join
import Derived.Lib.Atoi
namespace Go.Proofs.YticccnkanihpnaaDoor
set_option linter.unusedVariables false
open Go.RowKit
attribute [local go_sem ↓] Go.wp_at_zero Go.wp_at_succ
section
variable {w:World}
set_option maxRecDepth 8000 in
theorem app_EN {ops:Array Oper} {rest:List Oper} {o:Oper} {a:Act} {Q:Exit->Act->World->Prop} (hgd:o.guard=none) (s x:Operand)
  (ho:o.op=.call { callee:=.builtin .append,args:=#[s,x],argTypes:=#[32,32] })
  (base:Nat) (v:Value) (L M:List DV) (B n m:Nat) (hn:M.length=n) (hm':L.length+n=m) (hs:a.eval s=v) (hown:EO w base v L) (hm:0 < M.length) (hx:a.eval x=.slice (some ⟨B,0,none⟩) n n)
  (hB:w.heap[B]?=some (.cells (flatD M).toArray 24 (0,0))) (hlen:L.length+M.length<=1000000000000) (hbase:base<=w.heap.size)
  (h:∀ g cap w',EO w' base (.slice (some ⟨g,0,none⟩) m cap) (L++M)->w.grownBy w' v.ownBlock->Below base w w'->wpList Tryd.prog ops Q rest (a.put o.dst (.slice (some ⟨g,0,none⟩) m cap)) w') :
  wpList Tryd.prog ops Q (o::rest) a w:=by
 subst hn hm'
 obtain ⟨i0,hi,hz0,hz1,hz2⟩:=info_parts infoDe
 have h1c:∀ u ∈ flatD M,u.oneCell'=true:=by
  intro u hu
  simp only [flatD,List.mem_flatMap] at hu
  obtain ⟨d,_,hu⟩:=hu
  simp only [List.mem_cons,List.not_mem_nil,or_false] at hu
  rcases hu with rfl | rfl | rfl <;> rfl
 refine wpList_append_lies w hgd s x _ ho base 24 i0 _ 3 24 Tryd.underlying32 hi hz0 hz1 hz2 rfl (by decide) v L.length _ hs hown
  ⟨B,0,none⟩ M.length M.length (flatD M) hx (by rw [flatD_len]) (by have:=World.news_of_block (cs:=(flatD M).toArray) hB;simpa using this) h1c hm (by simp only [maxLen];omega) (by omega) hbase _ rfl ?_
 intro g cap w' h1 h2 _ _
 exact h g cap w' (by simpa [EO,flatD] using h1) h2 ((Below.refl _ _).grown h2 hbase (owns_base hown))
set_option maxRecDepth 8000 in
theorem step_E {ops:Array Oper} {o:Oper} {a:Act} {K:Act->World->Prop} {Q:Exit->Act->World->Prop} {E:Prop} (hgd:o.guard=none) (s x:Operand)
  (ho:o.op=.call { callee:=.builtin .append,args:=#[s,x],argTypes:=#[32,32] })
  (base:Nat) (v:Value) (L:List DV) (p q r:Int) (B m:Nat) (hm:L.length+1=m) (hs:a.eval s=v) (hown:EO w base v L) (hx:a.eval x=.slice (some ⟨B,0,none⟩) 1 1)
  (hB:w.heap[B]?=some (.cells #[.int .i64 p,.int .i64 q,.int .i64 r] 24 (0,0))) (hlen:L.length<=1000000000000) (hbase:base<=w.heap.size)
  (h:∀ g cap w',EO w' base (.slice (some ⟨g,0,none⟩) m cap) (L++[⟨p,q,r⟩])->w.grownBy w' v.ownBlock->Below base w w'->K (a.put o.dst (.slice (some ⟨g,0,none⟩) m cap)) w') :
  if Region.wanted o (yielded ops a.tmps)=true then Oper.wp Tryd.prog o a w K Q else E:=by
 subst hm
 obtain ⟨i0,hi,hz0,hz1,hz2⟩:=info_parts infoDe
 refine step_append_lies w hgd s x _ ho base 24 i0 _ 3 24 Tryd.underlying32 hi hz0 hz1 hz2 rfl (by decide) v L.length _ hs hown
  ⟨B,0,none⟩ 1 1 [.int .i64 p,.int .i64 q,.int .i64 r] hx rfl (World.news_of_block (cs:=#[.int .i64 p,.int .i64 q,.int .i64 r]) hB) (by simp [Value.oneCell']) (by decide) (by simp only [maxLen];omega) (by omega) hbase _ rfl ?_
 intro g cap w' h1 h2 _ _
 exact h g cap w' (by simpa [EO,flatD_snoc] using h1) h2 ((Below.refl _ _).grown h2 hbase (owns_base hown))
end
theorem EO.lit {w:World} {base:Nat} (h:base<=w.heap.size) (M:List DV) (hm:M.length<=1000):EO (w.alloc (.cells (flatD M).toArray 24)) base (.slice (some ⟨w.heap.size,0,none⟩) M.length M.length) M:=by
 refine ⟨by rw [flatD_len],.inr ⟨w.heap.size,M.length,(flatD M).toArray,rfl,h,heap_alloc_new _ _,Nat.le_refl _,by simp only [maxLen];omega,?_,?_⟩⟩
 ·simp [flatD_len]
 ·exact List.take_of_length_le (by simp [flatD_len])
theorem EO.cells3 {w:World} {base g n c:Nat} {M:List DV} (h:EO w base (.slice (some ⟨g,0,none⟩) n c) M) (k:Nat) (hk:k < n) :
  w.cell? ⟨g,k * 3,none⟩=some (.int .i64 (ZD M k).k)∧w.cell? ⟨g,k * 3+1,none⟩=some (.int .i64 (ZD M k).a)∧w.cell? ⟨g,k * 3+2,none⟩=some (.int .i64 (ZD M k).b):=by
 obtain ⟨hn,hD⟩:=h.isOf
 obtain ⟨b,off,e,_,hc⟩:=hD (by omega)
 injection e with e
 injection e with e1 e2 _
 subst e1 e2
 have:=hc k (by omega)
 simpa using this
theorem set3 {w:World} {R:Nat} {t:TypeId} {x y z:Value} (p q r:Value) (h:w.heap[R]?=some (.cells #[x,y,z] t (0,0))) :
  (((w.setCell ⟨R,0,none⟩ p).setCell ⟨R,1,none⟩ q).setCell ⟨R,2,none⟩ r).heap[R]?=some (.cells #[p,q,r] t (0,0)):=by
 obtain ⟨hlt,he⟩:=Array.getElem?_eq_some_iff.1 h
 rw [Array.getElem?_eq_getElem (by simpa [World.setCell] using hlt)]
 simp [World.setCell,Array.getElem_modify,he]
def pD (s:List UInt8) (d:DV):Bool:=decide (s≠[]) && decide (deedL d=s)
theorem find_yes {L:List DV} {p:DV->Bool} {k:Nat} (hk:k < L.length) (h:∀ j,j < k->p (ZD L j)=false) (hp:p (ZD L k)=true):L.find? p=some (ZD L k):=by
 have e:∀ j (hj:j < L.length),ZD L j=L[j]:=fun j hj=>by simp [ZD,hj]
 refine List.find?_eq_some_iff_getElem.2 ⟨hp,k,hk,(e k hk).symm,fun j hj=>?_⟩
 rw [<- e j (by omega),h j hj];rfl
theorem find_no {L:List DV} {p:DV->Bool} (h:∀ j,j < L.length->p (ZD L j)=false):L.find? p=none:=by
 refine List.find?_eq_none.2 (fun d hd=>?_)
 obtain ⟨j,hj,rfl⟩:=List.getElem_of_mem hd
 have:=h j hj
 have e:ZD L j=L[j]:=by simp [ZD,hj]
 rw [e] at this;simp [this]
def readV (o:Option DV):Value:=match o with
 | some d=>.tuple #[.agg #[.int .i64 d.k,.int .i64 d.a,.int .i64 d.b],.bool true]
 | none=>.tuple #[.agg #[.int .i64 0,.int .i64 0,.int .i64 0],.bool false]
theorem cutS_short (c:UInt8) (B:Nat):∀ (l:List UInt8) (s:List (List UInt8)×List UInt8),s.2.length+l.length<=B->(∀ x ∈ s.1,x.length<=B) ->
  (∀ x ∈ (l.foldl (fun s d=>if d=c then (s.1++[s.2],[]) else (s.1,s.2++[d])) s).1,x.length<=B)∧(l.foldl (fun s d=>if d=c then (s.1++[s.2],[]) else (s.1,s.2++[d])) s).2.length<=B:=by
 intro l
 induction l with
 | nil=>intro s h1 h2;exact ⟨h2,by simpa using h1⟩
 | cons d l ih =>
  intro s h1 h2
  simp only [List.length_cons] at h1
  simp only [List.foldl]
  split
  ·refine ih _ (by simp;omega) (fun x hx=>?_)
   simp only [List.mem_append,List.mem_singleton] at hx
   rcases hx with hx | rfl
   ·exact h2 x hx
   ·omega
  ·exact ih _ (by simp;omega) h2
theorem cut_short (s:List UInt8) (k:Nat):(ZS (cutL 32 s) k).length<=s.length:=by
 obtain ⟨h1,h2⟩:=cutS_short 32 s.length s ([],[]) (by simp) (by simp)
 have h3:∀ x ∈ cutL 32 s,x.length<=s.length:=by
  intro x hx
  simp only [cutL,List.mem_append,List.mem_singleton] at hx
  rcases hx with hx | rfl
  ·exact h1 x hx
  ·exact h2
 by_cases hk:k < (cutL 32 s).length
 ·simp only [ZS,List.getD_eq_getElem?_getD,List.getElem?_eq_getElem hk,Option.getD_some]
  exact h3 _ (List.getElem_mem _)
 ·simp [ZS,List.getD_eq_getElem?_getD,List.getElem?_eq_none (by omega:(cutL 32 s).length<=k)]
set_option maxRecDepth 8000 in
set_option maxHeartbeats 8000000 in
theorem c_sReadDeed (s:List UInt8) (hs:s.length<=100000000) (w:World) :
  Calls Tryd.prog 16 #[.string (bs s)] w fun e w'=>e=.returned (readV (readD s))∧Below w.heap.size w w':=by
 have HCut:=Lib.hid (fun W=>show Calls Tryd.prog 46 #[.string (bs s),.int .u8 32] W fun e w'=>∃ v,e=.returned v∧SO w' W.heap.size v (cutL 32 s)∧Below W.heap.size W w' from by
  have K:=c_sCut (bs s) 32 (by rw [bs_size];omega) W
  exact K)
 have HF:=Lib.hid (show readD s=(candL s).find? (pD s) from rfl)
 by_cases h3:(cutL 32 s).length=3
 ·have e3:(((cutL 32 s).length:Int) == 3)=true:=beq_iff_eq.2 (by omega)
  have e2:(((cutL 32 s).length:Int) == 2)=false:=beq_eq_false_iff_ne.2 (by omega)
  have hcd:candL s=[⟨1,0,0⟩,⟨4,0,0⟩]++[⟨0,digL (ZS (cutL 32 s) 1),digL (ZS (cutL 32 s) 2)⟩]:=by simp [candL,h3,ZS]
  rw [hcd] at HF
  have HDg:=Lib.hid (fun (x:List UInt8) (hx:x.length<=1000000000) W=>show Calls Tryd.prog 47 #[.string (bs x)] W fun e w'=>e=.returned (.int .i64 (digL x))∧w'=W from c_sDigits (bs x) (by rw [bs_size];omega) W)
  have HL:=Lib.hid (fun k=>cut_short s k)
  clear hcd
  go_enter Tryd.func16,Tryd.ntmps16
  go_wp2_with fail
  refine (HCut.out _).mono ?_
  rintro e w1 ⟨v,rfl,hown1,hb1⟩
  obtain ⟨A1,n1,rfl,-,-,hA1⟩:=hown1.form
  go_wp2_with fail
  have hz0:(w.alloc (.cells #[.int .i64 0,.int .i64 0,.int .i64 0] 24)).heap.size=w.heap.size+1:=by simp
  have bR0:=heap_alloc_new w (.cells #[.int .i64 0,.int .i64 0,.int .i64 0] 24)
  have hb0:Below w.heap.size w (w.alloc (.cells #[.int .i64 0,.int .i64 0,.int .i64 0] 24)):=by (repeat (first | exact rfl | exact Below.refl _ _ | (with_reducible refine Below.drew ?_) | (with_reducible refine Below.drewN ?_ _) | (with_reducible refine Below.alloc ?_ ?_ _) | (with_reducible refine Below.setCell ?_ ?_ _) | (show _<=_;focus (first | omega | (simp;done) | (simp;omega)))))
  have hs1:=hb1.size
  rw [hz0] at hs1
  have bR1:=(hb1.block w.heap.size (by rw [hz0];omega)).trans bR0
  have hown5:=EO.lit (w:=w1) (base:=w1.heap.size) (Nat.le_refl _) [⟨1,0,0⟩,⟨4,0,0⟩] (by simp)
  have hx5:Below w.heap.size w (w1.alloc (.cells (flatD [⟨1,0,0⟩,⟨4,0,0⟩]).toArray 24)):=(hb0.trans (hb1.mono (by rw [hz0];omega))).alloc (by omega) _
  have bR5:=(Below.heap_alloc w1 (.cells (flatD [⟨1,0,0⟩,⟨4,0,0⟩]).toArray 24) w.heap.size (by omega)).trans bR1
  have hg5:w1.heap.size < (w1.alloc (.cells (flatD [⟨1,0,0⟩,⟨4,0,0⟩]).toArray 24)).heap.size:=by simp
  obtain ⟨b1,o1,rfl,hb1l,hc1⟩:=hA1 (by omega)
  have q1:=hc1 1 (by omega)
  have q2:=hc1 2 (by omega)
  have u1:=(((Below.refl w1.heap.size w1).alloc (Nat.le_refl _) (.cells (flatD [⟨1,0,0⟩,⟨4,0,0⟩]).toArray 24)).cell (p:=⟨b1,o1+1,none⟩) hb1l).trans q1
  have u2:=(((Below.refl w1.heap.size w1).alloc (Nat.le_refl _) (.cells (flatD [⟨1,0,0⟩,⟨4,0,0⟩]).toArray 24)).cell (p:=⟨b1,o1+2,none⟩) hb1l).trans q2
  have hla:(ZS (cutL 32 s) 1).length<=1000000000:=by have:=HL.out 1;omega
  have hlb:(ZS (cutL 32 s) 2).length<=1000000000:=by have:=HL.out 2;omega
  have hsl:w1.heap.size<=(w1.alloc (.cells (flatD [⟨1,0,0⟩,⟨4,0,0⟩]).toArray 24)).heap.size:=by simp
  change Code.wp _ _ _ _ (w1.alloc (.cells (flatD [⟨1,0,0⟩,⟨4,0,0⟩]).toArray 24))
  generalize hw4:(w1.alloc (.cells (flatD [⟨1,0,0⟩,⟨4,0,0⟩]).toArray 24))=w4 at *
  generalize ZS (cutL 32 s) 1=xa at *
  generalize ZS (cutL 32 s) 2=xb at *
  clear hc1 q1 q2 HL hw4 hown1 bR1 hb0 bR0 hz0 hb1
  go_region_held3 (fun w'=>w'.cell? ⟨b1,o1+1,none⟩=some (.string (bs xa))∧w'.cell? ⟨b1,o1+2,none⟩=some (.string (bs xb)))
   (first
     | go_keep
     | exact ⟨(hb6.cell (p:=⟨b1,o1+1,none⟩) hb1l).trans ((((Below.refl w4.heap.size w4).drew.alloc (Nat.le_refl _) _).cell (p:=⟨b1,o1+1,none⟩) (show b1 < w4.heap.size by omega)).trans u1),(hb6.cell (p:=⟨b1,o1+2,none⟩) hb1l).trans ((((Below.refl w4.heap.size w4).drew.alloc (Nat.le_refl _) _).cell (p:=⟨b1,o1+2,none⟩) (show b1 < w4.heap.size by omega)).trans u2)⟩)
   (first
     | (go_at_call 47;refine (HDg.out _ (by assumption) _).mono ?_;rintro e w' ⟨rfl,rfl⟩)
     | (refine step_E (by rfl) (.tmp 16) (.tmp 26) (by rfl) w1.heap.size (.slice (some ⟨w1.heap.size,0,none⟩) 2 2) [⟨1,0,0⟩,⟨4,0,0⟩] 0 (digL xa) (digL xb) w4.heap.size 3 (by rfl) (by rfl) (hown5.drew.alloc _) (by rfl) (heap_alloc_new _ _) (by simp) (Nat.le_trans hsl (by simp)) ?_;intro g5 cap w5 hown6 hgr hb6))
  have hmid:Below w4.heap.size w4 (w4.drew.alloc (.cells #[.int .i64 0,.int .i64 (digL xa),.int .i64 (digL xb)] 24)):=(Below.refl w4.heap.size w4).drew.alloc (Nat.le_refl _) _
  have hzm:=hmid.size
  have hx5:Below w.heap.size w w5:=(hx5.trans (hmid.mono (by omega))).trans (hb6.mono (by omega))
  have bR5:=(hb6.block w.heap.size (by omega)).trans ((hmid.block w.heap.size (by omega)).trans bR5)
  have hg5:=owns_lt hown6 g5 (by simp [Value.ownBlock])
  have hs1:w.heap.size+1<=w5.heap.size:=(Array.getElem?_eq_some_iff.1 bR5).1
  have HC:=Lib.hid (fun k (hk:k < 3)=>(hown6.cells3 k hk))
  have hdl:([⟨1,0,0⟩,⟨4,0,0⟩]++[⟨0,digL xa,digL xb⟩]:List DV).length=3:=rfl
  generalize ([⟨1,0,0⟩,⟨4,0,0⟩]++[⟨0,digL xa,digL xb⟩]:List DV)=ds at *
  clear hb6 hown6 hown5 hmid hzm hgr u1 u2 hb1l hA1
  go_wp2_with fail
  go_loopw [7] (fun i wr=>∃ k:Nat,k<=3∧i=.int .i64 (k:Int)∧Hid (∀ j,j < k->pD s (ZD ds j)=false)∧Below w5.heap.size w5 wr) (fun i _=>3 - (intOf i).toNat)
  case atStart=>exact ⟨0,by omega,rfl,Lib.hid (fun j hj=>by omega),Below.refl _ _⟩
  case round =>
   obtain ⟨k,hk,rfl,HN,hb⟩:=hrel
   have hsz:=hb.size
   have bR:=(hb.block w.heap.size (by omega)).trans bR5
   have p1:(0:Int)<=(k:Int):=by omega
   by_cases hlt:k < 3
   ·have p2:(k:Int) < 3:=by omega
    obtain ⟨c0,c1,c2⟩:=HC.out k hlt
    have d0:=(hb.cell (p:=⟨g5,k * 3,none⟩) hg5).trans c0
    have d1:=(hb.cell (p:=⟨g5,k * 3+1,none⟩) hg5).trans c1
    have d2:=(hb.cell (p:=⟨g5,k * 3+2,none⟩) hg5).trans c2
    clear c0 c1 c2
    obtain ⟨⟨dk,da,db⟩,hd⟩:∃ d,ZD ds k=d:=⟨_,rfl⟩
    rw [hd] at d0 d1 d2
    have HD:=Lib.hid hd
    clear hd
    by_cases hse:s=[]
    ·have hq:(bs s).toList=[]:=by rw [bs_list,hse]
     have HP:=Lib.hid (show pD s (ZD ds k)=false by simp [pD,hse])
     clear hse
     go_wp2_with fail
     go_roundw
     case rel=>exact ⟨k+1,by omega,by go_num,Lib.hid (fun j hj=>by
      rcases Nat.lt_succ_iff_lt_or_eq.1 hj with h | rfl
      ·exact HN.out j h
      ·exact HP.out),hb⟩
     case measure=>simp [intOf];omega
    ·have hq:¬ (bs s).toList=[]:=by rw [bs_list];exact hse
     have HSe:=Lib.hid hse
     clear hse
     go_wp2_with fail
     refine (c_sDeedText _ _ _ _).mono ?_
     rintro e w6 ⟨rfl,hb6⟩
     have hx6:=hb.trans (hb6.mono hsz)
     have hie:(!(bs s).toList.isEmpty)=true:=by simpa using hq
     clear hq
     by_cases hp:deedL ⟨dk,da,db⟩=s
     ·have hdq:((bs (deedL ⟨dk,da,db⟩)).toList == (bs s).toList)=true:=by rw [hp];simp
      have e0:=(hb6.cell (p:=⟨g5,k * 3,none⟩) (show g5 < wr.heap.size by omega)).trans d0
      have e1:=(hb6.cell (p:=⟨g5,k * 3+1,none⟩) (show g5 < wr.heap.size by omega)).trans d1
      have e2:=(hb6.cell (p:=⟨g5,k * 3+2,none⟩) (show g5 < wr.heap.size by omega)).trans d2
      have bR6:=(hb6.block w.heap.size (by omega)).trans bR
      have r0:=cell_of_row _ w.heap.size 0 _ _ _ bR6
      have r1:=cell_of_row _ w.heap.size 1 _ _ _ bR6
      have r2:=cell_of_row _ w.heap.size 2 _ _ _ bR6
      have f0:∀ i,w6.frozen? ⟨w.heap.size,i,none⟩=false:=fun i=>by simp [World.frozen?,bR6]
      have f00:=f0 0
      have f01:=f0 1
      have f02:=f0 2
      have HP:=Lib.hid (show readD s=some ⟨dk,da,db⟩ by rw [HF.out,<- HD.out];exact find_yes (by omega) HN.out (by rw [HD.out];simp [pD,hp,HSe.out]))
      clear hp d0 d1 d2 f0
      go_wp2_with fail
      have b7:=set3 (.int .i64 dk) (.int .i64 da) (.int .i64 db) bR6
      have k0:=cell_of_row _ w.heap.size 0 _ _ _ b7
      have k1:=cell_of_row _ w.heap.size 1 _ _ _ b7
      have k2:=cell_of_row _ w.heap.size 2 _ _ _ b7
      refine bodyPost_ret (v:=.tuple #[.agg #[.int .i64 dk,.int .i64 da,.int .i64 db],.bool true]) (by simp [results,Tryd.f16,go_sem,k0,k1,k2]) rfl ?_
      exact ⟨by rw [HP.out];rfl,(((hx5.trans (hx6.mono hx5.size)).setCell (p:=⟨w.heap.size,0,none⟩) (Nat.le_refl _) _).setCell (p:=⟨w.heap.size,1,none⟩) (Nat.le_refl _) _).setCell (p:=⟨w.heap.size,2,none⟩) (Nat.le_refl _) _⟩
     ·have hdq:((bs (deedL ⟨dk,da,db⟩)).toList == (bs s).toList)=false:=by rw [bs_list,bs_list];simpa using hp
      have HP:=Lib.hid (show pD s (ZD ds k)=false by rw [HD.out];simp [pD,hp])
      clear hp d0 d1 d2
      go_wp2_with fail
      go_roundw
      case rel=>exact ⟨k+1,by omega,by go_num,Lib.hid (fun j hj=>by
       rcases Nat.lt_succ_iff_lt_or_eq.1 hj with h | rfl
       ·exact HN.out j h
       ·exact HP.out),hx6⟩
      case measure=>simp [intOf];omega
   ·have p2:¬ (k:Int) < 3:=by omega
    obtain rfl:k=3:=by omega
    have HP:=Lib.hid (show readD s=none by rw [HF.out];exact find_no (fun j hj=>HN.out j (by omega)))
    have r0:=cell_of_row _ w.heap.size 0 _ _ _ bR
    have r1:=cell_of_row _ w.heap.size 1 _ _ _ bR
    have r2:=cell_of_row _ w.heap.size 2 _ _ _ bR
    have f0:∀ i,wr.frozen? ⟨w.heap.size,i,none⟩=false:=fun i=>by simp [World.frozen?,bR]
    have f00:=f0 0
    have f01:=f0 1
    have f02:=f0 2
    clear f0
    go_wp2_with fail
    have b7:=set3 (.int .i64 0) (.int .i64 0) (.int .i64 0) bR
    have k0:=cell_of_row _ w.heap.size 0 _ _ _ b7
    have k1:=cell_of_row _ w.heap.size 1 _ _ _ b7
    have k2:=cell_of_row _ w.heap.size 2 _ _ _ b7
    refine bodyPost_ret (v:=.tuple #[.agg #[.int .i64 0,.int .i64 0,.int .i64 0],.bool false]) (by simp [results,Tryd.f16,go_sem,k0,k1,k2]) rfl ?_
    exact ⟨by rw [HP.out];rfl,(((hx5.trans (hb.mono hx5.size)).setCell (p:=⟨w.heap.size,0,none⟩) (Nat.le_refl _) _).setCell (p:=⟨w.heap.size,1,none⟩) (Nat.le_refl _) _).setCell (p:=⟨w.heap.size,2,none⟩) (Nat.le_refl _) _⟩
 ·by_cases h2:(cutL 32 s).length=2
  ·have e3:(((cutL 32 s).length:Int) == 3)=false:=beq_eq_false_iff_ne.2 (by omega)
   have e2:(((cutL 32 s).length:Int) == 2)=true:=beq_iff_eq.2 (by omega)
   have hcd:candL s=[⟨1,0,0⟩,⟨4,0,0⟩]++[⟨2,digL (ZS (cutL 32 s) 1),0⟩,⟨3,digL (ZS (cutL 32 s) 1),0⟩]:=by simp [candL,h2,ZS]
   rw [hcd] at HF
   have HDg:=Lib.hid (fun (x:List UInt8) (hx:x.length<=1000000000) W=>show Calls Tryd.prog 47 #[.string (bs x)] W fun e w'=>e=.returned (.int .i64 (digL x))∧w'=W from c_sDigits (bs x) (by rw [bs_size];omega) W)
   have HL:=Lib.hid (fun k=>cut_short s k)
   clear hcd
   go_enter Tryd.func16,Tryd.ntmps16
   go_wp2_with fail
   refine (HCut.out _).mono ?_
   rintro e w1 ⟨v,rfl,hown1,hb1⟩
   obtain ⟨A1,n1,rfl,-,-,hA1⟩:=hown1.form
   obtain ⟨b1,o1,rfl,hb1l,hc1⟩:=hA1 (by omega)
   have q1:=hc1 1 (by omega)
   have u1:=(((Below.refl w1.heap.size w1).alloc (Nat.le_refl _) (.cells (flatD [⟨1,0,0⟩,⟨4,0,0⟩]).toArray 24)).cell (p:=⟨b1,o1+1,none⟩) hb1l).trans q1
   change World.cell? (w1.alloc (.cells #[.int .i64 1,.int .i64 0,.int .i64 0,.int .i64 4,.int .i64 0,.int .i64 0] 24)) _=_ at u1
   have hla:(ZS (cutL 32 s) 1).length<=1000000000:=by have:=HL.out 1;omega
   generalize ZS (cutL 32 s) 1=xa at *
   clear hc1 q1 HL
   go_wp2_with fail
   refine (HDg.out _ hla _).mono ?_
   rintro e w4 ⟨rfl,hw4⟩
   have hz0:(w.alloc (.cells #[.int .i64 0,.int .i64 0,.int .i64 0] 24)).heap.size=w.heap.size+1:=by simp
   have bR0:=heap_alloc_new w (.cells #[.int .i64 0,.int .i64 0,.int .i64 0] 24)
   have hb0:Below w.heap.size w (w.alloc (.cells #[.int .i64 0,.int .i64 0,.int .i64 0] 24)):=by (repeat (first | exact rfl | exact Below.refl _ _ | (with_reducible refine Below.drew ?_) | (with_reducible refine Below.drewN ?_ _) | (with_reducible refine Below.alloc ?_ ?_ _) | (with_reducible refine Below.setCell ?_ ?_ _) | (show _<=_;focus (first | omega | (simp;done) | (simp;omega)))))
   have hs1:=hb1.size
   rw [hz0] at hs1
   have bR1:=(hb1.block w.heap.size (by rw [hz0];omega)).trans bR0
   have hown5:=EO.lit (w:=w1) (base:=w1.heap.size) (Nat.le_refl _) [⟨1,0,0⟩,⟨4,0,0⟩] (by simp)
   have hx5:Below w.heap.size w (w1.alloc (.cells (flatD [⟨1,0,0⟩,⟨4,0,0⟩]).toArray 24)):=(hb0.trans (hb1.mono (by rw [hz0];omega))).alloc (by omega) _
   have bR5:=(Below.heap_alloc w1 (.cells (flatD [⟨1,0,0⟩,⟨4,0,0⟩]).toArray 24) w.heap.size (by omega)).trans bR1
   have hg5:w1.heap.size < (w1.alloc (.cells (flatD [⟨1,0,0⟩,⟨4,0,0⟩]).toArray 24)).heap.size:=by simp
   have hw4':w1.alloc (.cells (flatD [⟨1,0,0⟩,⟨4,0,0⟩]).toArray 24)=w4:=hw4.symm
   have hsl:w1.heap.size<=(w1.alloc (.cells (flatD [⟨1,0,0⟩,⟨4,0,0⟩]).toArray 24)).heap.size:=by simp
   rw [hw4'] at hown5 hx5 bR5 hg5 hsl
   clear hw4' hw4 u1 hown1 hb1 hb1l bR1 hb0 bR0 hz0 HDg hA1
   generalize digL xa=dx at *
   have hmid:Below w4.heap.size w4 (w4.alloc (.cells #[.int .i64 2,.int .i64 dx,.int .i64 0,.int .i64 3,.int .i64 dx,.int .i64 0] 24)):=(Below.refl w4.heap.size w4).alloc (Nat.le_refl _) _
   have hzm:=hmid.size
   go_wp2_with (refine app_EN ?_ (.tmp 35) (.tmp 40) ?_ w1.heap.size (.slice (some ⟨w1.heap.size,0,none⟩) 2 2) [⟨1,0,0⟩,⟨4,0,0⟩] [⟨2,dx,0⟩,⟨3,dx,0⟩] w4.heap.size 2 4 ?_ ?_ ?_ ?_ ?_ ?_ ?_ ?_ ?_ ?_;rfl;rfl;rfl;rfl;rfl;exact (hown5.alloc _);(simp);rfl;exact (heap_alloc_new _ _);(simp);exact (Nat.le_trans hsl hzm);intro g5 cap w5 hown6 hgr hb6)
   have hx5:Below w.heap.size w w5:=(hx5.trans (hmid.mono (by omega))).trans (hb6.mono (by omega))
   have bR5:=(hb6.block w.heap.size (by omega)).trans ((hmid.block w.heap.size (by omega)).trans bR5)
   have hg5:=owns_lt hown6 g5 (by simp [Value.ownBlock])
   have hs1:w.heap.size+1<=w5.heap.size:=(Array.getElem?_eq_some_iff.1 bR5).1
   have HC:=Lib.hid (fun k (hk:k < 4)=>(hown6.cells3 k hk))
   have hdl:([⟨1,0,0⟩,⟨4,0,0⟩]++[⟨2,dx,0⟩,⟨3,dx,0⟩]:List DV).length=4:=rfl
   generalize ([⟨1,0,0⟩,⟨4,0,0⟩]++[⟨2,dx,0⟩,⟨3,dx,0⟩]:List DV)=ds at *
   clear hb6 hown6 hown5 hmid hzm hgr
   go_wp2_with fail
   go_loopw [7] (fun i wr=>∃ k:Nat,k<=4∧i=.int .i64 (k:Int)∧Hid (∀ j,j < k->pD s (ZD ds j)=false)∧Below w5.heap.size w5 wr) (fun i _=>4 - (intOf i).toNat)
   case atStart=>exact ⟨0,by omega,rfl,Lib.hid (fun j hj=>by omega),Below.refl _ _⟩
   case round =>
    obtain ⟨k,hk,rfl,HN,hb⟩:=hrel
    have hsz:=hb.size
    have bR:=(hb.block w.heap.size (by omega)).trans bR5
    have p1:(0:Int)<=(k:Int):=by omega
    by_cases hlt:k < 4
    ·have p2:(k:Int) < 4:=by omega
     obtain ⟨c0,c1,c2⟩:=HC.out k hlt
     have d0:=(hb.cell (p:=⟨g5,k * 3,none⟩) hg5).trans c0
     have d1:=(hb.cell (p:=⟨g5,k * 3+1,none⟩) hg5).trans c1
     have d2:=(hb.cell (p:=⟨g5,k * 3+2,none⟩) hg5).trans c2
     clear c0 c1 c2
     obtain ⟨⟨dk,da,db⟩,hd⟩:∃ d,ZD ds k=d:=⟨_,rfl⟩
     rw [hd] at d0 d1 d2
     have HD:=Lib.hid hd
     clear hd
     by_cases hse:s=[]
     ·have hq:(bs s).toList=[]:=by rw [bs_list,hse]
      have HP:=Lib.hid (show pD s (ZD ds k)=false by simp [pD,hse])
      clear hse
      go_wp2_with fail
      go_roundw
      case rel=>exact ⟨k+1,by omega,by go_num,Lib.hid (fun j hj=>by
       rcases Nat.lt_succ_iff_lt_or_eq.1 hj with h | rfl
       ·exact HN.out j h
       ·exact HP.out),hb⟩
      case measure=>simp [intOf];omega
     ·have hq:¬ (bs s).toList=[]:=by rw [bs_list];exact hse
      have HSe:=Lib.hid hse
      clear hse
      go_wp2_with fail
      refine (c_sDeedText _ _ _ _).mono ?_
      rintro e w6 ⟨rfl,hb6⟩
      have hx6:=hb.trans (hb6.mono hsz)
      have hie:(!(bs s).toList.isEmpty)=true:=by simpa using hq
      clear hq
      by_cases hp:deedL ⟨dk,da,db⟩=s
      ·have hdq:((bs (deedL ⟨dk,da,db⟩)).toList == (bs s).toList)=true:=by rw [hp];simp
       have e0:=(hb6.cell (p:=⟨g5,k * 3,none⟩) (show g5 < wr.heap.size by omega)).trans d0
       have e1:=(hb6.cell (p:=⟨g5,k * 3+1,none⟩) (show g5 < wr.heap.size by omega)).trans d1
       have e2:=(hb6.cell (p:=⟨g5,k * 3+2,none⟩) (show g5 < wr.heap.size by omega)).trans d2
       have bR6:=(hb6.block w.heap.size (by omega)).trans bR
       have r0:=cell_of_row _ w.heap.size 0 _ _ _ bR6
       have r1:=cell_of_row _ w.heap.size 1 _ _ _ bR6
       have r2:=cell_of_row _ w.heap.size 2 _ _ _ bR6
       have f0:∀ i,w6.frozen? ⟨w.heap.size,i,none⟩=false:=fun i=>by simp [World.frozen?,bR6]
       have f00:=f0 0
       have f01:=f0 1
       have f02:=f0 2
       have HP:=Lib.hid (show readD s=some ⟨dk,da,db⟩ by rw [HF.out,<- HD.out];exact find_yes (by omega) HN.out (by rw [HD.out];simp [pD,hp,HSe.out]))
       clear hp d0 d1 d2 f0
       go_wp2_with fail
       have b7:=set3 (.int .i64 dk) (.int .i64 da) (.int .i64 db) bR6
       have k0:=cell_of_row _ w.heap.size 0 _ _ _ b7
       have k1:=cell_of_row _ w.heap.size 1 _ _ _ b7
       have k2:=cell_of_row _ w.heap.size 2 _ _ _ b7
       refine bodyPost_ret (v:=.tuple #[.agg #[.int .i64 dk,.int .i64 da,.int .i64 db],.bool true]) (by simp [results,Tryd.f16,go_sem,k0,k1,k2]) rfl ?_
       exact ⟨by rw [HP.out];rfl,(((hx5.trans (hx6.mono hx5.size)).setCell (p:=⟨w.heap.size,0,none⟩) (Nat.le_refl _) _).setCell (p:=⟨w.heap.size,1,none⟩) (Nat.le_refl _) _).setCell (p:=⟨w.heap.size,2,none⟩) (Nat.le_refl _) _⟩
      ·have hdq:((bs (deedL ⟨dk,da,db⟩)).toList == (bs s).toList)=false:=by rw [bs_list,bs_list];simpa using hp
       have HP:=Lib.hid (show pD s (ZD ds k)=false by rw [HD.out];simp [pD,hp])
       clear hp d0 d1 d2
       go_wp2_with fail
       go_roundw
       case rel=>exact ⟨k+1,by omega,by go_num,Lib.hid (fun j hj=>by
        rcases Nat.lt_succ_iff_lt_or_eq.1 hj with h | rfl
        ·exact HN.out j h
        ·exact HP.out),hx6⟩
       case measure=>simp [intOf];omega
    ·have p2:¬ (k:Int) < 4:=by omega
     obtain rfl:k=4:=by omega
     have HP:=Lib.hid (show readD s=none by rw [HF.out];exact find_no (fun j hj=>HN.out j (by omega)))
     have r0:=cell_of_row _ w.heap.size 0 _ _ _ bR
     have r1:=cell_of_row _ w.heap.size 1 _ _ _ bR
     have r2:=cell_of_row _ w.heap.size 2 _ _ _ bR
     have f0:∀ i,wr.frozen? ⟨w.heap.size,i,none⟩=false:=fun i=>by simp [World.frozen?,bR]
     have f00:=f0 0
     have f01:=f0 1
     have f02:=f0 2
     clear f0
     go_wp2_with fail
     have b7:=set3 (.int .i64 0) (.int .i64 0) (.int .i64 0) bR
     have k0:=cell_of_row _ w.heap.size 0 _ _ _ b7
     have k1:=cell_of_row _ w.heap.size 1 _ _ _ b7
     have k2:=cell_of_row _ w.heap.size 2 _ _ _ b7
     refine bodyPost_ret (v:=.tuple #[.agg #[.int .i64 0,.int .i64 0,.int .i64 0],.bool false]) (by simp [results,Tryd.f16,go_sem,k0,k1,k2]) rfl ?_
     exact ⟨by rw [HP.out];rfl,(((hx5.trans (hb.mono hx5.size)).setCell (p:=⟨w.heap.size,0,none⟩) (Nat.le_refl _) _).setCell (p:=⟨w.heap.size,1,none⟩) (Nat.le_refl _) _).setCell (p:=⟨w.heap.size,2,none⟩) (Nat.le_refl _) _⟩
  ·have e3:(((cutL 32 s).length:Int) == 3)=false:=beq_eq_false_iff_ne.2 (by omega)
   have e2:(((cutL 32 s).length:Int) == 2)=false:=beq_eq_false_iff_ne.2 (by omega)
   have hcd:candL s=[⟨1,0,0⟩,⟨4,0,0⟩]:=by simp [candL,h3,h2]
   rw [hcd] at HF
   clear hcd h3 h2
   go_enter Tryd.func16,Tryd.ntmps16
   go_wp2_with fail
   refine (HCut.out _).mono ?_
   rintro e w1 ⟨v,rfl,hown1,hb1⟩
   obtain ⟨A1,n1,rfl,-,-,hA1⟩:=hown1.form
   go_wp2_with fail
   have hz0:(w.alloc (.cells #[.int .i64 0,.int .i64 0,.int .i64 0] 24)).heap.size=w.heap.size+1:=by simp
   have bR0:=heap_alloc_new w (.cells #[.int .i64 0,.int .i64 0,.int .i64 0] 24)
   have hb0:Below w.heap.size w (w.alloc (.cells #[.int .i64 0,.int .i64 0,.int .i64 0] 24)):=by (repeat (first | exact rfl | exact Below.refl _ _ | (with_reducible refine Below.drew ?_) | (with_reducible refine Below.drewN ?_ _) | (with_reducible refine Below.alloc ?_ ?_ _) | (with_reducible refine Below.setCell ?_ ?_ _) | (show _<=_;focus (first | omega | (simp;done) | (simp;omega)))))
   have hs1:=hb1.size
   rw [hz0] at hs1
   have bR1:=(hb1.block w.heap.size (by rw [hz0];omega)).trans bR0
   have hown5:=EO.lit (w:=w1) (base:=w1.heap.size) (Nat.le_refl _) [⟨1,0,0⟩,⟨4,0,0⟩] (by simp)
   have hx5:Below w.heap.size w (w1.alloc (.cells (flatD [⟨1,0,0⟩,⟨4,0,0⟩]).toArray 24)):=(hb0.trans (hb1.mono (by rw [hz0];omega))).alloc (by omega) _
   have bR5:=(Below.heap_alloc w1 (.cells (flatD [⟨1,0,0⟩,⟨4,0,0⟩]).toArray 24) w.heap.size (by omega)).trans bR1
   have hg5:w1.heap.size < (w1.alloc (.cells (flatD [⟨1,0,0⟩,⟨4,0,0⟩]).toArray 24)).heap.size:=by simp
   change Code.wp _ _ _ _ (w1.alloc (.cells (flatD [⟨1,0,0⟩,⟨4,0,0⟩]).toArray 24))
   generalize (w1.alloc (.cells (flatD [⟨1,0,0⟩,⟨4,0,0⟩]).toArray 24))=w5 at *
   generalize w1.heap.size=g5 at *
   have HC:=Lib.hid (fun k (hk:k < 2)=>(hown5.cells3 k hk))
   have hdl:([⟨1,0,0⟩,⟨4,0,0⟩]:List DV).length=2:=rfl
   generalize ([⟨1,0,0⟩,⟨4,0,0⟩]:List DV)=ds at *
   clear hb1 hown1 hA1 hown5 bR1 hb0 bR0 hz0
   go_wp2_with fail
   go_loopw [7] (fun i wr=>∃ k:Nat,k<=2∧i=.int .i64 (k:Int)∧Hid (∀ j,j < k->pD s (ZD ds j)=false)∧Below w5.heap.size w5 wr) (fun i _=>2 - (intOf i).toNat)
   case atStart=>exact ⟨0,by omega,rfl,Lib.hid (fun j hj=>by omega),Below.refl _ _⟩
   case round =>
    obtain ⟨k,hk,rfl,HN,hb⟩:=hrel
    have hsz:=hb.size
    have bR:=(hb.block w.heap.size (by omega)).trans bR5
    have p1:(0:Int)<=(k:Int):=by omega
    by_cases hlt:k < 2
    ·have p2:(k:Int) < 2:=by omega
     obtain ⟨c0,c1,c2⟩:=HC.out k hlt
     have d0:=(hb.cell (p:=⟨g5,k * 3,none⟩) hg5).trans c0
     have d1:=(hb.cell (p:=⟨g5,k * 3+1,none⟩) hg5).trans c1
     have d2:=(hb.cell (p:=⟨g5,k * 3+2,none⟩) hg5).trans c2
     clear c0 c1 c2
     obtain ⟨⟨dk,da,db⟩,hd⟩:∃ d,ZD ds k=d:=⟨_,rfl⟩
     rw [hd] at d0 d1 d2
     have HD:=Lib.hid hd
     clear hd
     by_cases hse:s=[]
     ·have hq:(bs s).toList=[]:=by rw [bs_list,hse]
      have HP:=Lib.hid (show pD s (ZD ds k)=false by simp [pD,hse])
      clear hse
      go_wp2_with fail
      go_roundw
      case rel=>exact ⟨k+1,by omega,by go_num,Lib.hid (fun j hj=>by
       rcases Nat.lt_succ_iff_lt_or_eq.1 hj with h | rfl
       ·exact HN.out j h
       ·exact HP.out),hb⟩
      case measure=>simp [intOf];omega
     ·have hq:¬ (bs s).toList=[]:=by rw [bs_list];exact hse
      have HSe:=Lib.hid hse
      clear hse
      go_wp2_with fail
      refine (c_sDeedText _ _ _ _).mono ?_
      rintro e w6 ⟨rfl,hb6⟩
      have hx6:=hb.trans (hb6.mono hsz)
      have hie:(!(bs s).toList.isEmpty)=true:=by simpa using hq
      clear hq
      by_cases hp:deedL ⟨dk,da,db⟩=s
      ·have hdq:((bs (deedL ⟨dk,da,db⟩)).toList == (bs s).toList)=true:=by rw [hp];simp
       have e0:=(hb6.cell (p:=⟨g5,k * 3,none⟩) (show g5 < wr.heap.size by omega)).trans d0
       have e1:=(hb6.cell (p:=⟨g5,k * 3+1,none⟩) (show g5 < wr.heap.size by omega)).trans d1
       have e2:=(hb6.cell (p:=⟨g5,k * 3+2,none⟩) (show g5 < wr.heap.size by omega)).trans d2
       have bR6:=(hb6.block w.heap.size (by omega)).trans bR
       have r0:=cell_of_row _ w.heap.size 0 _ _ _ bR6
       have r1:=cell_of_row _ w.heap.size 1 _ _ _ bR6
       have r2:=cell_of_row _ w.heap.size 2 _ _ _ bR6
       have f0:∀ i,w6.frozen? ⟨w.heap.size,i,none⟩=false:=fun i=>by simp [World.frozen?,bR6]
       have f00:=f0 0
       have f01:=f0 1
       have f02:=f0 2
       have HP:=Lib.hid (show readD s=some ⟨dk,da,db⟩ by rw [HF.out,<- HD.out];exact find_yes (by omega) HN.out (by rw [HD.out];simp [pD,hp,HSe.out]))
       clear hp d0 d1 d2 f0
       go_wp2_with fail
       have b7:=set3 (.int .i64 dk) (.int .i64 da) (.int .i64 db) bR6
       have k0:=cell_of_row _ w.heap.size 0 _ _ _ b7
       have k1:=cell_of_row _ w.heap.size 1 _ _ _ b7
       have k2:=cell_of_row _ w.heap.size 2 _ _ _ b7
       refine bodyPost_ret (v:=.tuple #[.agg #[.int .i64 dk,.int .i64 da,.int .i64 db],.bool true]) (by simp [results,Tryd.f16,go_sem,k0,k1,k2]) rfl ?_
       exact ⟨by rw [HP.out];rfl,(((hx5.trans (hx6.mono hx5.size)).setCell (p:=⟨w.heap.size,0,none⟩) (Nat.le_refl _) _).setCell (p:=⟨w.heap.size,1,none⟩) (Nat.le_refl _) _).setCell (p:=⟨w.heap.size,2,none⟩) (Nat.le_refl _) _⟩
      ·have hdq:((bs (deedL ⟨dk,da,db⟩)).toList == (bs s).toList)=false:=by rw [bs_list,bs_list];simpa using hp
       have HP:=Lib.hid (show pD s (ZD ds k)=false by rw [HD.out];simp [pD,hp])
       clear hp d0 d1 d2
       go_wp2_with fail
       go_roundw
       case rel=>exact ⟨k+1,by omega,by go_num,Lib.hid (fun j hj=>by
        rcases Nat.lt_succ_iff_lt_or_eq.1 hj with h | rfl
        ·exact HN.out j h
        ·exact HP.out),hx6⟩
       case measure=>simp [intOf];omega
    ·have p2:¬ (k:Int) < 2:=by omega
     obtain rfl:k=2:=by omega
     have HP:=Lib.hid (show readD s=none by rw [HF.out];exact find_no (fun j hj=>HN.out j (by omega)))
     have r0:=cell_of_row _ w.heap.size 0 _ _ _ bR
     have r1:=cell_of_row _ w.heap.size 1 _ _ _ bR
     have r2:=cell_of_row _ w.heap.size 2 _ _ _ bR
     have f0:∀ i,wr.frozen? ⟨w.heap.size,i,none⟩=false:=fun i=>by simp [World.frozen?,bR]
     have f00:=f0 0
     have f01:=f0 1
     have f02:=f0 2
     clear f0
     go_wp2_with fail
     have b7:=set3 (.int .i64 0) (.int .i64 0) (.int .i64 0) bR
     have k0:=cell_of_row _ w.heap.size 0 _ _ _ b7
     have k1:=cell_of_row _ w.heap.size 1 _ _ _ b7
     have k2:=cell_of_row _ w.heap.size 2 _ _ _ b7
     refine bodyPost_ret (v:=.tuple #[.agg #[.int .i64 0,.int .i64 0,.int .i64 0],.bool false]) (by simp [results,Tryd.f16,go_sem,k0,k1,k2]) rfl ?_
     exact ⟨by rw [HP.out];rfl,(((hx5.trans (hb.mono hx5.size)).setCell (p:=⟨w.heap.size,0,none⟩) (Nat.le_refl _) _).setCell (p:=⟨w.heap.size,1,none⟩) (Nat.le_refl _) _).setCell (p:=⟨w.heap.size,2,none⟩) (Nat.le_refl _) _⟩
end Go.Proofs.YticccnkanihpnaaDoor
namespace Go.Proofs.YticccnkanihpnaaDoor
set_option linter.unusedVariables false
open Go.RowKit
theorem unfrozenB {w:World} {R i:Nat} {cs:Array Value} {t:TypeId} (h:w.heap[R]?=some (.cells cs t (0,0))):w.frozen? ⟨R,i,none⟩=false:=by simp [World.frozen?,h]
theorem newK (w:World) (o p:Obj):((w.alloc o).alloc p).heap[w.heap.size+1]?=some p:=by
 have h:=heap_alloc_new (w.alloc o) p
 rwa [show (w.alloc o).heap.size=w.heap.size+1 by simp] at h
end Go.Proofs.YticccnkanihpnaaDoor
namespace Go.Proofs.YticccnkanihpnaaDoor
set_option linter.unusedVariables false
open Go.RowKit
attribute [local go_sem ↓] Go.wp_at_zero Go.wp_at_succ
set_option maxHeartbeats 1000000 in
theorem c_deedForms (w:World) :
  Calls Tryd.prog 41 #[] w fun e w'=>e=.returned (.agg #[.string ⟨#[99,111,109,101]⟩,.int .i64 2,.string ⟨#[103,111]⟩,.int .i64 0,.string ⟨#[110,101,101,100]⟩,.int .i64 1,.string ⟨#[108,97,116,101,114]⟩,.int .i64 1,.string ⟨#[98,97,99,107]⟩,.int .i64 0])∧Below w.heap.size w w':=by
 go_enter Tryd.func41,Tryd.ntmps41
 go_wp2_with fail
 exact bodyPost_ret (v:=.agg #[.string ⟨#[99,111,109,101]⟩,.int .i64 2,.string ⟨#[103,111]⟩,.int .i64 0,.string ⟨#[110,101,101,100]⟩,.int .i64 1,.string ⟨#[108,97,116,101,114]⟩,.int .i64 1,.string ⟨#[98,97,99,107]⟩,.int .i64 0]) (by simp [results,Tryd.f41,go_sem]) rfl ⟨rfl,by (repeat (first | exact rfl | exact Below.refl _ _ | (with_reducible refine Below.drew ?_) | (with_reducible refine Below.drewN ?_ _) | (with_reducible refine Below.alloc ?_ ?_ _) | (with_reducible refine Below.setCell ?_ ?_ _) | (show _<=_;focus (first | omega | (simp;done) | (simp;omega)))))⟩
end Go.Proofs.YticccnkanihpnaaDoor
namespace Go.Proofs
open Go.Shelf
open Go.RowKit Go.Sort Go.Lib in
def Tryd.laysM171_ren:Go.Shelf.Ren:=⟨fun | 171=>36 | 243=>56 | 246=>64 | 283=>71 | 284=>72 | 285=>73 | 286=>74 | 129=>85 | 317=>84 | 318=>86 | 319=>87 | 320=>88 | 337=>97 | 338=>98 | n=>n,fun | 3=>3 | 9=>9 | 2=>2 | 4=>4 | 171=>103 | 0=>0 | 53=>104 | 37=>22 | 5=>5 | 173=>107 | 212=>115 | 51=>116 | 20=>20 | 213=>117 | 46=>113 | 232=>138 | 233=>139 | n=>n,fun | 17=>1 | 18=>6 | 19=>7 | n=>n⟩
theorem Tryd.laysM171:Go.Proofs.LaysM.n171 Tryd.prog Tryd.laysM171_ren:={
 mixed:=by kernel_rfl
 f129:=Tryd.func85.trans (congrArg some (by kernel_rfl))
 f171:=Tryd.func36.trans (congrArg some (by kernel_rfl))
 f243:=Tryd.func56.trans (congrArg some (by kernel_rfl))
 f246:=Tryd.func64.trans (congrArg some (by kernel_rfl))
 f283:=Tryd.func71.trans (congrArg some (by kernel_rfl))
 f284:=Tryd.func72.trans (congrArg some (by kernel_rfl))
 f285:=Tryd.func73.trans (congrArg some (by kernel_rfl))
 f286:=Tryd.func74.trans (congrArg some (by kernel_rfl))
 f317:=Tryd.func84.trans (congrArg some (by kernel_rfl))
 f318:=Tryd.func86.trans (congrArg some (by kernel_rfl))
 f319:=Tryd.func87.trans (congrArg some (by kernel_rfl))
 f320:=Tryd.func88.trans (congrArg some (by kernel_rfl))
 f337:=Tryd.func97.trans (congrArg some (by kernel_rfl))
 f338:=Tryd.func98.trans (congrArg some (by kernel_rfl))
 t0:=Tryd.underlying0
 a0:=Tryd.isAgg0
 z0:=Tryd.sizeOf0
 v0:=Tryd.zeroValue0
 t2:=Tryd.underlying2
 a2:=Tryd.isAgg2
 z2:=Tryd.sizeOf2
 v2:=Tryd.zeroValue2
 t3:=Tryd.underlying3
 a3:=Tryd.isAgg3
 z3:=Tryd.sizeOf3
 v3:=Tryd.zeroValue3
 t4:=Tryd.underlying4
 a4:=Tryd.isAgg4
 z4:=Tryd.sizeOf4
 v4:=Tryd.zeroValue4
 t5:=Tryd.underlying5
 a5:=Tryd.isAgg5
 z5:=Tryd.sizeOf5
 v5:=Tryd.zeroValue5
 t9:=Tryd.underlying9
 a9:=Tryd.isAgg9
 z9:=Tryd.sizeOf9
 v9:=Tryd.zeroValue9
 t20:=Tryd.underlying20
 a20:=Tryd.isAgg20
 z20:=Tryd.sizeOf20
 v20:=Tryd.zeroValue20
 t37:=Tryd.underlying22
 a37:=Tryd.isAgg22
 z37:=Tryd.sizeOf22
 v37:=Tryd.zeroValue22
 t46:=Tryd.underlying113
 a46:=Tryd.isAgg113
 z46:=Tryd.sizeOf113
 v46:=Tryd.zeroValue113
 t51:=Tryd.underlying116
 a51:=Tryd.isAgg116
 z51:=Tryd.sizeOf116
 v51:=Tryd.zeroValue116
 t53:=Tryd.underlying104
 a53:=Tryd.isAgg104
 z53:=Tryd.sizeOf104
 v53:=Tryd.zeroValue104
 t171:=Tryd.underlying103
 a171:=Tryd.isAgg103
 z171:=Tryd.sizeOf103
 v171:=Tryd.zeroValue103
 t173:=Tryd.underlying107
 a173:=Tryd.isAgg107
 z173:=Tryd.sizeOf107
 v173:=Tryd.zeroValue107
 t212:=Tryd.underlying115
 a212:=Tryd.isAgg115
 z212:=Tryd.sizeOf115
 v212:=Tryd.zeroValue115
 t213:=Tryd.underlying117
 a213:=Tryd.isAgg117
 z213:=Tryd.sizeOf117
 t232:=Tryd.underlying138
 a232:=Tryd.isAgg138
 z232:=Tryd.sizeOf138
 v232:=Tryd.zeroValue138
 t233:=Tryd.underlying139
 a233:=Tryd.isAgg139
 z233:=Tryd.sizeOf139
 v233:=Tryd.zeroValue139
 g17:=by kernel_rfl
 g18:=by kernel_rfl
 g19:=by kernel_rfl
 i0:=by kernel_rfl
 i2:=by kernel_rfl
 i3:=by kernel_rfl
 i4:=by kernel_rfl
 i5:=by kernel_rfl
 i9:=by kernel_rfl
 i20:=by kernel_rfl
 i37:=by kernel_rfl
 i46:=by kernel_rfl
 i51:=by kernel_rfl
 i53:=by kernel_rfl
 i171:=by kernel_rfl
 i173:=by kernel_rfl
 i212:=by kernel_rfl
 i232:=by kernel_rfl
 i233:=by kernel_rfl
 m17:=by kernel_rfl
 m18:=by kernel_rfl
 m19:=by kernel_rfl }
open Go.RowKit Go.Sort Go.Lib in
theorem Tryd.strconv_Itoa (n : Int) (h0 : -9223372036854775808 ≤ n) (h1 : n ≤ 9223372036854775807) (w : World) (htab : Lib.TabIs Tryd.prog w "internal/strconv.uint64pow10" .u64 Lib.pow10Tab) :
  Calls Tryd.prog 36 #[.int .i64 n] w fun e w'=>e=.returned (.string ⟨(Lib.itoa n).toArray⟩)∧∃ k os,w'=grow (w.drewN k) os:=Any.strconv_Itoa Tryd.laysM171 n h0 h1 w htab
open Go.RowKit in
def Tryd.laysC172_ren:Go.Shelf.Ren:=⟨fun | 172=>68 | 244=>78 | 245=>79 | 247=>90 | 279=>91 | 280=>92 | 281=>93 | 282=>94 | 287=>99 | 316=>100 | 171=>36 | 205=>101 | 321=>102 | 322=>103 | 243=>56 | 246=>64 | 283=>71 | 284=>72 | 285=>73 | 286=>74 | 129=>85 | 317=>84 | 318=>86 | 319=>87 | 320=>88 | 337=>97 | 338=>98 | n=>n,fun | 9=>9 | 3=>3 | 75=>81 | 76=>82 | 4=>4 | 5=>5 | 167=>119 | 37=>22 | 0=>0 | 85=>120 | 2=>2 | 168=>122 | 53=>104 | 175=>132 | 46=>113 | 210=>136 | 127=>96 | 145=>143 | 143=>141 | 21=>21 | 171=>103 | 173=>107 | 212=>115 | 51=>116 | 20=>20 | 213=>117 | 232=>138 | 233=>139 | 80=>85 | n=>n,fun | 15=>4 | 16=>5 | 17=>1 | 18=>6 | 19=>7 | n=>n⟩
theorem Tryd.laysC172:Go.Proofs.LaysC.n172 Tryd.prog Tryd.laysC172_ren:={
 mixed:=by kernel_rfl
 f129:=Tryd.func85.trans (congrArg some (by kernel_rfl))
 f171:=Tryd.func36.trans (congrArg some (by kernel_rfl))
 f172:=Tryd.func68.trans (congrArg some (by kernel_rfl))
 f205:=Tryd.func101.trans (congrArg some (by kernel_rfl))
 f243:=Tryd.func56.trans (congrArg some (by kernel_rfl))
 f244:=Tryd.func78.trans (congrArg some (by kernel_rfl))
 f245:=Tryd.func79.trans (congrArg some (by kernel_rfl))
 f246:=Tryd.func64.trans (congrArg some (by kernel_rfl))
 f247:=Tryd.func90.trans (congrArg some (by kernel_rfl))
 f279:=Tryd.func91.trans (congrArg some (by kernel_rfl))
 f280:=Tryd.func92.trans (congrArg some (by kernel_rfl))
 f281:=Tryd.func93.trans (congrArg some (by kernel_rfl))
 f282:=Tryd.func94.trans (congrArg some (by kernel_rfl))
 f283:=Tryd.func71.trans (congrArg some (by kernel_rfl))
 f284:=Tryd.func72.trans (congrArg some (by kernel_rfl))
 f285:=Tryd.func73.trans (congrArg some (by kernel_rfl))
 f286:=Tryd.func74.trans (congrArg some (by kernel_rfl))
 f287:=Tryd.func99.trans (congrArg some (by kernel_rfl))
 f316:=Tryd.func100.trans (congrArg some (by kernel_rfl))
 f317:=Tryd.func84.trans (congrArg some (by kernel_rfl))
 f318:=Tryd.func86.trans (congrArg some (by kernel_rfl))
 f319:=Tryd.func87.trans (congrArg some (by kernel_rfl))
 f320:=Tryd.func88.trans (congrArg some (by kernel_rfl))
 f321:=Tryd.func102.trans (congrArg some (by kernel_rfl))
 f322:=Tryd.func103.trans (congrArg some (by kernel_rfl))
 f337:=Tryd.func97.trans (congrArg some (by kernel_rfl))
 f338:=Tryd.func98.trans (congrArg some (by kernel_rfl))
 t0:=Tryd.underlying0
 a0:=Tryd.isAgg0
 z0:=Tryd.sizeOf0
 v0:=Tryd.zeroValue0
 t2:=Tryd.underlying2
 a2:=Tryd.isAgg2
 z2:=Tryd.sizeOf2
 v2:=Tryd.zeroValue2
 t3:=Tryd.underlying3
 a3:=Tryd.isAgg3
 z3:=Tryd.sizeOf3
 v3:=Tryd.zeroValue3
 t4:=Tryd.underlying4
 a4:=Tryd.isAgg4
 z4:=Tryd.sizeOf4
 v4:=Tryd.zeroValue4
 t5:=Tryd.underlying5
 a5:=Tryd.isAgg5
 z5:=Tryd.sizeOf5
 v5:=Tryd.zeroValue5
 t9:=Tryd.underlying9
 a9:=Tryd.isAgg9
 z9:=Tryd.sizeOf9
 v9:=Tryd.zeroValue9
 t20:=Tryd.underlying20
 a20:=Tryd.isAgg20
 z20:=Tryd.sizeOf20
 v20:=Tryd.zeroValue20
 t21:=Tryd.underlying21
 a21:=Tryd.isAgg21
 z21:=Tryd.sizeOf21
 v21:=Tryd.zeroValue21
 t37:=Tryd.underlying22
 a37:=Tryd.isAgg22
 z37:=Tryd.sizeOf22
 v37:=Tryd.zeroValue22
 t46:=Tryd.underlying113
 a46:=Tryd.isAgg113
 z46:=Tryd.sizeOf113
 v46:=Tryd.zeroValue113
 t51:=Tryd.underlying116
 a51:=Tryd.isAgg116
 z51:=Tryd.sizeOf116
 v51:=Tryd.zeroValue116
 t53:=Tryd.underlying104
 a53:=Tryd.isAgg104
 z53:=Tryd.sizeOf104
 v53:=Tryd.zeroValue104
 t75:=Tryd.underlying81
 a75:=Tryd.isAgg81
 z75:=Tryd.sizeOf81
 v75:=Tryd.zeroValue81
 t76:=Tryd.underlying82
 a76:=Tryd.isAgg82
 z76:=Tryd.sizeOf82
 v76:=Tryd.zeroValue82
 t85:=Tryd.underlying120
 a85:=Tryd.isAgg120
 z85:=Tryd.sizeOf120
 v85:=Tryd.zeroValue120
 t127:=Tryd.underlying96
 a127:=Tryd.isAgg96
 z127:=Tryd.sizeOf96
 v127:=Tryd.zeroValue96
 t143:=Tryd.underlying141
 a143:=Tryd.isAgg141
 z143:=Tryd.sizeOf141
 v143:=Tryd.zeroValue141
 t145:=Tryd.underlying143
 a145:=Tryd.isAgg143
 z145:=Tryd.sizeOf143
 v145:=Tryd.zeroValue143
 t167:=Tryd.underlying119
 a167:=Tryd.isAgg119
 z167:=Tryd.sizeOf119
 v167:=Tryd.zeroValue119
 t168:=Tryd.underlying122
 a168:=Tryd.isAgg122
 z168:=Tryd.sizeOf122
 v168:=Tryd.zeroValue122
 t171:=Tryd.underlying103
 a171:=Tryd.isAgg103
 z171:=Tryd.sizeOf103
 v171:=Tryd.zeroValue103
 t173:=Tryd.underlying107
 a173:=Tryd.isAgg107
 z173:=Tryd.sizeOf107
 v173:=Tryd.zeroValue107
 t175:=Tryd.underlying132
 a175:=Tryd.isAgg132
 z175:=Tryd.sizeOf132
 v175:=Tryd.zeroValue132
 t210:=Tryd.underlying136
 a210:=Tryd.isAgg136
 z210:=Tryd.sizeOf136
 v210:=Tryd.zeroValue136
 t212:=Tryd.underlying115
 a212:=Tryd.isAgg115
 z212:=Tryd.sizeOf115
 v212:=Tryd.zeroValue115
 t213:=Tryd.underlying117
 a213:=Tryd.isAgg117
 z213:=Tryd.sizeOf117
 t232:=Tryd.underlying138
 a232:=Tryd.isAgg138
 z232:=Tryd.sizeOf138
 v232:=Tryd.zeroValue138
 t233:=Tryd.underlying139
 a233:=Tryd.isAgg139
 z233:=Tryd.sizeOf139
 v233:=Tryd.zeroValue139
 g15:=by kernel_rfl
 g16:=by kernel_rfl
 g17:=by kernel_rfl
 g18:=by kernel_rfl
 g19:=by kernel_rfl
 t80:=Tryd.underlying85
 a80:=Tryd.isAgg85
 z80:=Tryd.sizeOf85
 v80:=Tryd.zeroValue85
 i0:=by kernel_rfl
 i2:=by kernel_rfl
 i3:=by kernel_rfl
 i4:=by kernel_rfl
 i5:=by kernel_rfl
 i9:=by kernel_rfl
 i20:=by kernel_rfl
 i21:=by kernel_rfl
 i37:=by kernel_rfl
 i46:=by kernel_rfl
 i51:=by kernel_rfl
 i53:=by kernel_rfl
 i75:=by kernel_rfl
 i76:=by kernel_rfl
 i80:=by kernel_rfl
 i85:=by kernel_rfl
 i127:=by kernel_rfl
 i143:=by kernel_rfl
 i145:=by kernel_rfl
 i167:=by kernel_rfl
 i168:=by kernel_rfl
 i171:=by kernel_rfl
 i173:=by kernel_rfl
 i175:=by kernel_rfl
 i210:=by kernel_rfl
 i212:=by kernel_rfl
 i232:=by kernel_rfl
 i233:=by kernel_rfl
 m15:=by kernel_rfl
 m16:=by kernel_rfl
 m17:=by kernel_rfl
 m18:=by kernel_rfl
 m19:=by kernel_rfl
 c0:=by kernel_rfl
 c2:=by kernel_rfl
 c3:=by kernel_rfl
 c4:=by kernel_rfl
 c5:=by kernel_rfl
 c9:=by kernel_rfl
 c20:=by kernel_rfl
 c21:=by kernel_rfl
 c37:=by kernel_rfl
 c46:=by kernel_rfl
 c51:=by kernel_rfl
 c53:=by kernel_rfl
 c75:=by kernel_rfl
 c76:=by kernel_rfl
 c80:=by kernel_rfl
 c85:=by kernel_rfl
 c127:=by kernel_rfl
 c143:=by kernel_rfl
 c145:=by kernel_rfl
 c167:=by kernel_rfl
 c168:=by kernel_rfl
 c171:=by kernel_rfl
 c173:=by kernel_rfl
 c175:=by kernel_rfl
 c210:=by kernel_rfl
 c212:=by kernel_rfl
 c213:=by kernel_rfl
 c232:=by kernel_rfl
 c233:=by kernel_rfl }
open Go.RowKit in
theorem Tryd.strconv_Atoi_ok (s:ByteArray) (hmax:s.size<=9223372036854775806) (v:Int) (h:Lib.atoiAll s.data.toList=.ok v) (w:World) :
  Calls Tryd.prog 68 #[.string s] w fun e w'=>e=.returned (.tuple #[.int .i64 v,.nilIface])∧(w'=w∨∃ t,w'=Lib.bytesWorld w 5 t):=Any.strconv_Atoi_ok Tryd.laysC172 s hmax v h w
open Go.RowKit in
theorem Tryd.strconv_Atoi_syntax_var (s : ByteArray) (hlim : s.size ≤ 281474976710656) (h : Lib.atoiAll s.data.toList = Lib.NumEnd.syntax) (tp : TypeId) (p : Value) (w : World) (hvar : w.var? Tryd.prog "strconv.ErrSyntax" = some #[.iface tp p]) :
  Calls Tryd.prog 68 #[.string s] w fun e w'=>∃ N,e=.returned (.tuple #[.int .i64 0,.iface 122 (.pointer (some ⟨N,0,none⟩))])∧w.heap.size<=N∧w'.heap[N]?=some (.cells #[.string ⟨#[65,116,111,105]⟩,.string s,.iface tp p] 136 (0,0))∧Below w.heap.size w w':=Any.strconv_Atoi_syntax_var Tryd.laysC172 s hlim h tp p w hvar
open Go.RowKit in
theorem Tryd.strconv_Atoi_range_var (s : ByteArray) (hlim : s.size ≤ 281474976710656) (h : Lib.atoiAll s.data.toList = .range) (tp : TypeId) (p : Value) (w : World) (hvar : w.var? Tryd.prog "strconv.ErrRange" = some #[.iface tp p]) :
  Calls Tryd.prog 68 #[.string s] w fun e w'=>∃ N,e=.returned (.tuple #[.int .i64 (Lib.atoiSat s.data.toList),.iface 122 (.pointer (some ⟨N,0,none⟩))])∧w.heap.size<=N∧w'.heap[N]?=some (.cells #[.string ⟨#[65,116,111,105]⟩,.string s,.iface tp p] 136 (0,0))∧Below w.heap.size w w':=Any.strconv_Atoi_range_var Tryd.laysC172 s hlim h tp p w hvar
open Go.RowKit Go.Lib in
def Tryd.lays145_ren:Go.Shelf.Ren:=⟨fun | 145=>53 | 220=>62 | 219=>70 | 217=>80 | 225=>81 | 224=>82 | 267=>83 | 266=>95 | 314=>96 | n=>n,fun | 9=>9 | 4=>4 | 59=>86 | 3=>3 | 5=>5 | 46=>113 | 146=>125 | 51=>116 | n=>n,fun | 1=>0 | n=>n⟩
theorem Tryd.lays145:Go.Proofs.Lays.n145 Tryd.prog Tryd.lays145_ren:={
 mixed:=by kernel_rfl
 f145:=Tryd.func53.trans (congrArg some (by kernel_rfl))
 f217:=Tryd.func80.trans (congrArg some (by kernel_rfl))
 f219:=Tryd.func70.trans (congrArg some (by kernel_rfl))
 f220:=Tryd.func62.trans (congrArg some (by kernel_rfl))
 f224:=Tryd.func82.trans (congrArg some (by kernel_rfl))
 f225:=Tryd.func81.trans (congrArg some (by kernel_rfl))
 f266:=Tryd.func95.trans (congrArg some (by kernel_rfl))
 f267:=Tryd.func83.trans (congrArg some (by kernel_rfl))
 f314:=Tryd.func96.trans (congrArg some (by kernel_rfl))
 t3:=Tryd.underlying3
 a3:=Tryd.isAgg3
 z3:=Tryd.sizeOf3
 v3:=Tryd.zeroValue3
 t4:=Tryd.underlying4
 a4:=Tryd.isAgg4
 z4:=Tryd.sizeOf4
 v4:=Tryd.zeroValue4
 t5:=Tryd.underlying5
 a5:=Tryd.isAgg5
 z5:=Tryd.sizeOf5
 v5:=Tryd.zeroValue5
 t9:=Tryd.underlying9
 a9:=Tryd.isAgg9
 z9:=Tryd.sizeOf9
 v9:=Tryd.zeroValue9
 t46:=Tryd.underlying113
 a46:=Tryd.isAgg113
 z46:=Tryd.sizeOf113
 v46:=Tryd.zeroValue113
 t51:=Tryd.underlying116
 a51:=Tryd.isAgg116
 z51:=Tryd.sizeOf116
 v51:=Tryd.zeroValue116
 t59:=Tryd.underlying86
 a59:=Tryd.isAgg86
 z59:=Tryd.sizeOf86
 v59:=Tryd.zeroValue86
 t146:=Tryd.underlying125
 a146:=Tryd.isAgg125
 z146:=Tryd.sizeOf125
 v146:=Tryd.zeroValue125
 g1:=by kernel_rfl }
open Go.RowKit Go.Lib in
theorem Tryd.strings_Cut (s sep:ByteArray) (m:Int) (w:World) (hs:s.size < 4294967281) (hm:w.cell? ⟨0,0,none⟩=some (.int .i64 m)) :
  Calls Tryd.prog 53 #[.string s,.string sep] w fun e w'=>e=.returned (.tuple #[.string ⟨(Lib.cut s.data.toList sep.data.toList).1.toArray⟩,.string ⟨(Lib.cut s.data.toList sep.data.toList).2.1.toArray⟩,.bool (Lib.cut s.data.toList sep.data.toList).2.2])∧∃ n,w'=w.drewN n:=Any.strings_Cut Tryd.lays145 s sep m w hs hm
open Go.RowKit Go.Lib in
def Tryd.lays146_ren:Go.Shelf.Ren:=⟨fun | 146=>40 | 221=>58 | 268=>65 | 138=>66 | 143=>67 | 195=>75 | 197=>76 | 218=>77 | 219=>70 | 260=>89 | 217=>80 | 225=>81 | 224=>82 | 267=>83 | 266=>95 | 314=>96 | n=>n,fun | 9=>9 | 31=>64 | 3=>3 | 4=>4 | 0=>0 | 105=>109 | 21=>21 | 5=>5 | 46=>113 | 119=>128 | 139=>131 | 138=>130 | 146=>125 | 51=>116 | n=>n,fun | 1=>0 | 3=>2 | 4=>3 | n=>n⟩
theorem Tryd.lays146:Go.Proofs.Lays.n146 Tryd.prog Tryd.lays146_ren:={
 mixed:=by kernel_rfl
 f138:=Tryd.func66.trans (congrArg some (by kernel_rfl))
 f143:=Tryd.func67.trans (congrArg some (by kernel_rfl))
 f146:=Tryd.func40.trans (congrArg some (by kernel_rfl))
 f195:=Tryd.func75.trans (congrArg some (by kernel_rfl))
 f197:=Tryd.func76.trans (congrArg some (by kernel_rfl))
 f217:=Tryd.func80.trans (congrArg some (by kernel_rfl))
 f218:=Tryd.func77.trans (congrArg some (by kernel_rfl))
 f219:=Tryd.func70.trans (congrArg some (by kernel_rfl))
 f221:=Tryd.func58.trans (congrArg some (by kernel_rfl))
 f224:=Tryd.func82.trans (congrArg some (by kernel_rfl))
 f225:=Tryd.func81.trans (congrArg some (by kernel_rfl))
 f260:=Tryd.func89.trans (congrArg some (by kernel_rfl))
 f266:=Tryd.func95.trans (congrArg some (by kernel_rfl))
 f267:=Tryd.func83.trans (congrArg some (by kernel_rfl))
 f268:=Tryd.func65.trans (congrArg some (by kernel_rfl))
 f314:=Tryd.func96.trans (congrArg some (by kernel_rfl))
 t0:=Tryd.underlying0
 a0:=Tryd.isAgg0
 z0:=Tryd.sizeOf0
 v0:=Tryd.zeroValue0
 t3:=Tryd.underlying3
 a3:=Tryd.isAgg3
 z3:=Tryd.sizeOf3
 v3:=Tryd.zeroValue3
 t4:=Tryd.underlying4
 a4:=Tryd.isAgg4
 z4:=Tryd.sizeOf4
 v4:=Tryd.zeroValue4
 t5:=Tryd.underlying5
 a5:=Tryd.isAgg5
 z5:=Tryd.sizeOf5
 v5:=Tryd.zeroValue5
 t9:=Tryd.underlying9
 a9:=Tryd.isAgg9
 z9:=Tryd.sizeOf9
 v9:=Tryd.zeroValue9
 t21:=Tryd.underlying21
 a21:=Tryd.isAgg21
 z21:=Tryd.sizeOf21
 v21:=Tryd.zeroValue21
 t31:=Tryd.underlying64
 a31:=Tryd.isAgg64
 z31:=Tryd.sizeOf64
 v31:=Tryd.zeroValue64
 t46:=Tryd.underlying113
 a46:=Tryd.isAgg113
 z46:=Tryd.sizeOf113
 v46:=Tryd.zeroValue113
 t51:=Tryd.underlying116
 a51:=Tryd.isAgg116
 z51:=Tryd.sizeOf116
 v51:=Tryd.zeroValue116
 t105:=Tryd.underlying109
 a105:=Tryd.isAgg109
 z105:=Tryd.sizeOf109
 v105:=Tryd.zeroValue109
 t119:=Tryd.underlying128
 a119:=Tryd.isAgg128
 z119:=Tryd.sizeOf128
 t138:=Tryd.underlying130
 a138:=Tryd.isAgg130
 z138:=Tryd.sizeOf130
 v138:=Tryd.zeroValue130
 t139:=Tryd.underlying131
 a139:=Tryd.isAgg131
 z139:=Tryd.sizeOf131
 v139:=Tryd.zeroValue131
 t146:=Tryd.underlying125
 a146:=Tryd.isAgg125
 z146:=Tryd.sizeOf125
 v146:=Tryd.zeroValue125
 g1:=by kernel_rfl
 g3:=by kernel_rfl
 g4:=by kernel_rfl }
open Go.RowKit Go.Lib in
theorem Tryd.strings_Split (s sep:ByteArray) (m:Int) (w:World) (hs:s.size < 4294967281) (hm:w.cell? ⟨0,0,none⟩=some (.int .i64 m)) (h1:1<=sep.size) :
  Calls Tryd.prog 40 #[.string s,.string sep] w fun e w' =>
   e=.returned (.slice (some ⟨w.heap.size,0,none⟩) (Lib.countB s sep+1) (Lib.countB s sep+1))∧w'=w.alloc (.cells ((Lib.splitB sep 0 (Lib.countB s sep) s).map Value.string).toArray 9):=Any.strings_Split Tryd.lays146 (by kernel_rfl) s sep m w hs hm h1
end Go.Proofs
namespace Go.Proofs.YticccnkanihpnaaDoor
set_option linter.unusedVariables false
open Go.RowKit
theorem dec_num:∀ n,Lib.decDigits n=numL n:=by
 intro n
 induction n using Nat.strongRecOn with
 | _ n ih =>
  rw [Lib.decDigits,numL]
  by_cases h:n < 10
  ·rw [dif_pos h,if_pos h,dig8,Nat.mod_eq_of_lt h]
  ·rw [dif_neg h,if_neg h,ih (n / 10) (by omega),dig8]
theorem itoa_num (n:Nat):Lib.itoa (n:Int)=numL n:=by
 rw [Lib.itoa,if_neg (by omega),Int.toNat_natCast,dec_num]
theorem below_grow (w:World) (k:Nat) (os:Array Obj):Below w.heap.size w (Sort.grow (w.drewN k) os) :=
 ⟨rfl,rfl,rfl,by simp [Sort.grow,World.drewN],fun j hj=>by
   show ((w.drewN k).heap++os)[j]?=w.heap[j]?
   exact Array.getElem?_append_left hj⟩
theorem c_atoi (l:List UInt8) (hl:l.length<=140737488355328) (w:World) (hV:LV w w.heap.size) :
  Calls Tryd.prog 68 #[.string (bs l)] w fun e w'=>((∃ v,Lib.atoiAll l=.ok v∧e=.returned (.tuple #[.int .i64 v,.nilIface]))∨((∀ v,Lib.atoiAll l≠.ok v)∧∃ v b,e=.returned (.tuple #[.int .i64 v,.iface 122 (.pointer (some ⟨b,0,none⟩))])))∧Below w.heap.size w w':=by
 have hsz:=bs_size l
 have hd:(bs l).data.toList=l:=rfl
 obtain ⟨⟨-,t1,p1,v1⟩,-,t2,p2,v2⟩:=hV.2.1
 cases h:Lib.atoiAll l with
 | ok v =>
  refine (Tryd.strconv_Atoi_ok (bs l) (by omega) v (by rw [hd];exact h) w).mono fun e w' ⟨he,hw⟩=>⟨.inl ⟨v,rfl,he⟩,?_⟩
  rcases hw with rfl | ⟨t,rfl⟩
  ·exact Below.refl _ _
  ·exact Lib.bytesWorld_below _ _ _
 | range =>
  exact (Tryd.strconv_Atoi_range_var (bs l) (by omega) (by rw [hd];exact h) t2 p2 w v2).mono fun e w' ⟨b,he,_,_,hb⟩=>⟨.inr ⟨fun v hv=>by simp at hv,_,b,he⟩,hb⟩
 | _ =>
  exact (Tryd.strconv_Atoi_syntax_var (bs l) (by omega) (by rw [hd];exact h) t1 p1 w v1).mono fun e w' ⟨b,he,_,_,hb⟩=>⟨.inr ⟨fun v hv=>by simp at hv,_,b,he⟩,hb⟩
end Go.Proofs.YticccnkanihpnaaDoor
namespace Go.Proofs.YticccnkanihpnaaDoor
set_option linter.unusedVariables false
open Go.RowKit
theorem indexC_none {c:UInt8}:∀ {s:List UInt8},c ∉ s->Lib.index s [c]=-1:=by
 intro s
 induction s with
 | nil=>intro _;rfl
 | cons b l ih =>
  intro h
  have h1:¬ c=b:=fun e=>h (by simp [e])
  have h2:c ∉ l:=fun e=>h (by simp [e])
  simp [Lib.index,List.isPrefixOf,ih h2,h1]
theorem indexC_at {c:UInt8}:∀ {a:List UInt8} (b:List UInt8),c ∉ a->Lib.index (a++c::b) [c]=a.length:=by
 intro a
 induction a with
 | nil=>intro b _;simp [Lib.index,List.isPrefixOf]
 | cons x l ih =>
  intro b h
  have h1:¬ c=x:=fun e=>h (by simp [e])
  have h2:c ∉ l:=fun e=>h (by simp [e])
  have e:=ih b h2
  have hne:¬ ((l.length:Int)=-1):=by omega
  simp [Lib.index,List.isPrefixOf,e,h1,hne]
theorem cutC_none {c:UInt8} {s:List UInt8} (h:c ∉ s):Lib.cut s [c]=(s,[],false):=by
 rw [Lib.cut,indexC_none h,if_neg (by omega)]
theorem cutC_at {c:UInt8} {a:List UInt8} (b:List UInt8) (h:c ∉ a):Lib.cut (a++c::b) [c]=(a,b,true):=by
 rw [Lib.cut,indexC_at b h,if_pos (by omega)]
 simp
theorem split_at (c:UInt8) (s:List UInt8):c ∉ s∨∃ a b,s=a++c::b∧c ∉ a:=by
 induction s with
 | nil=>exact .inl (by simp)
 | cons x l ih =>
  by_cases h:c=x
  ·exact .inr ⟨[],l,by simp [h],by simp⟩
  ·rcases ih with h2 | ⟨a,b,e,ha⟩
   ·exact .inl (by simp [h,h2])
   ·exact .inr ⟨x::a,b,by simp [e],by simp [h,ha]⟩
theorem cutL_none {c:UInt8} {s:List UInt8} (h:c ∉ s):cutL c s=[s]:=by
 have:=cutS_word (sep:=c) [] s h
 simp only [List.nil_append] at this
 rw [cutL,this]
 simp [cutS]
theorem cutS_fold (c:UInt8):∀ (s:List UInt8) (p:List (List UInt8)) (w:List UInt8),s.foldl (fun s x=>if x=c then (s.1++[s.2],[]) else (s.1,s.2++[x])) (p,w)=(p++((s.foldl (fun s x=>if x=c then (s.1++[s.2],[]) else (s.1,s.2++[x])) ([],w)).1),(s.foldl (fun s x=>if x=c then (s.1++[s.2],[]) else (s.1,s.2++[x])) ([],w)).2):=by
 intro s
 induction s with
 | nil=>intro p w;simp
 | cons x l ih =>
  intro p w
  simp only [List.foldl_cons]
  by_cases h:x=c
  ·simp only [if_pos h]
   rw [ih (p++[w]),ih ([]++[w])]
   simp
  ·simp only [if_neg h]
   rw [ih p]
theorem cutL_at {c:UInt8} {a:List UInt8} (b:List UInt8) (h:c ∉ a):cutL c (a++c::b)=a::cutL c b:=by
 have h1:=cutS_word (sep:=c) [] a h
 simp only [List.nil_append] at h1
 have h2:cutS c (a++[c])=([a],[]):=by rw [cutS_snoc,if_pos rfl,h1];simp [cutS]
 have h3:cutS c (a++c::b)=([a]++(cutS c b).1,(cutS c b).2):=by
  have e:a++c::b=(a++[c])++b:=by simp
  rw [e]
  show ((a++[c])++b).foldl _ _=_
  rw [List.foldl_append]
  have h2':(a++[c]).foldl (fun s x=>if x=c then (s.1++[s.2],[]) else (s.1,s.2++[x])) ([],[])=([a],[]):=h2
  rw [h2',cutS_fold]
  rfl
 rw [cutL,h3,cutL]
 simp
theorem decFrom_val:∀ (l:List UInt8) (acc:Nat),l.all isD=true->Lib.decFrom acc l=some (l.foldl (fun n c=>10 * n+(c.toNat - 48)) acc):=by
 intro l
 induction l with
 | nil=>intro acc _;rfl
 | cons b r ih =>
  intro acc h
  simp only [List.all_cons,Bool.and_eq_true] at h
  have hd:=isD_nat h.1
  rw [Lib.decFrom,Lib.digitVal,if_pos hd]
  simp only [List.foldl_cons]
  rw [ih _ h.2,show acc * 10+(b.toNat - 48)=10 * acc+(b.toNat - 48) by omega]
theorem atoi_val {l:List UInt8} (hl:l≠[]) (h:l.all isD=true):Lib.atoi l=some (valN l:Int):=by
 cases l with
 | nil=>exact absurd rfl hl
 | cons b r =>
  have hd:isD b=true:=by simp only [List.all_cons,Bool.and_eq_true] at h;exact h.1
  have hn:=isD_nat hd
  have h1:(b == 45)=false:=by
   cases hb:(b == 45) with
   | false=>rfl
   | true=>rw [eq_of_beq hb] at hn;simp at hn
  have h2:(b == 43)=false:=by
   cases hb:(b == 43) with
   | false=>rfl
   | true=>rw [eq_of_beq hb] at hn;simp at hn
  rw [Lib.atoi,h1,h2]
  simp only [Bool.false_eq_true,if_false]
  rw [Lib.decNat,if_neg (by simp),decFrom_val _ 0 h]
  rfl
end Go.Proofs.YticccnkanihpnaaDoor

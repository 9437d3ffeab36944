import Derived.Test.YthpccmkagikhjaaGreatDoorQExactDeskLine1
import Derived.Test.YthpccmkagikhjaaGreatDoorQExactDeskLine2
import Derived.Test.YthpccmkagikhjaaGreatDoorQExactDeskLine3
import Derived.Test.YthpccmkagikhjaaGreatDoorQExactDeskLine4
import Derived.Test.YthpccmkagikhjaaGreatDoorQExactDeskLine7
import Derived.Test.YthpccmkagikhjaaGreatDoorQExactDeskLine10
import Derived.Lib.SplitLaws
import Derived.Deep.Upon
import Derived.OwnWalk
namespace Go.Proofs.YthpccmkagikhjaaGreatDoor
set_option linter.unusedVariables false
open Go.RowKit
set_option maxRecDepth 4000
set_option maxHeartbeats 4000000
section
theorem splitK_cut (c:UInt8):∀ (m:Nat) (s:List UInt8),s.length<=m->Lib.splitK [c] 0 (Lib.count s [c]) s=cutL c s:=by
 intro m
 induction m with
 | zero =>
  intro s h
  have:s=[]:=List.eq_nil_of_length_eq_zero (by omega)
  subst this
  rw [cutL_none (by simp),Lib.count_miss (by simp [Lib.index])]
  rfl
 | succ m ih =>
  intro s h
  rcases split_at c s with h1 | ⟨a,b,rfl,ha⟩
  ·rw [cutL_none h1,Lib.count_miss (indexC_none h1)];rfl
  ·have hi:=indexC_at b ha
   have e:(a++c::b).drop (a.length+[c].length)=b:=by simp
   have e2:(a++c::b).take (a.length+0)=a:=by simp
   rw [cutL_at b ha,Lib.count_hit (by simp) hi,e,Nat.add_comm,Lib.splitK,if_neg (by rw [hi];simp),hi,Int.toNat_natCast,e,e2,ih b (by simp at h;omega)]
theorem splitB_cut (c:UInt8) (s:ByteArray):(Lib.splitB ⟨#[c]⟩ 0 (Lib.countB s ⟨#[c]⟩) s).map (·.data.toList)=cutL c s.data.toList:=by
 rw [Lib.splitB_data]
 exact splitK_cut c _ _ (Nat.le_refl _)
theorem splitB_len (c:UInt8) (s:ByteArray):Lib.countB s ⟨#[c]⟩+1=(cutL c s.data.toList).length:=by
 rw [<- splitB_cut,List.length_map,Lib.splitB_all _ (by simp [ByteArray.size]) 0 _ s rfl]
def uncut (c:UInt8):List (List UInt8)->List UInt8
 | []=>[]
 | [x]=>x
 | x::y::r=>x++c::uncut c (y::r)
theorem cutL_ne (c:UInt8) (s:List UInt8):cutL c s≠[]:=by simp [cutL]
theorem uncut_cons (c:UInt8) (x:List UInt8) {r:List (List UInt8)} (h:r≠[]):uncut c (x::r)=x++c::uncut c r:=by
 cases r with
 | nil=>exact absurd rfl h
 | cons y r=>rfl
theorem uncut_cut (c:UInt8):∀ (m:Nat) (s:List UInt8),s.length<=m->uncut c (cutL c s)=s:=by
 intro m
 induction m with
 | zero =>
  intro s h
  have:s=[]:=List.eq_nil_of_length_eq_zero (by omega)
  subst this
  rw [cutL_none (by simp)];rfl
 | succ m ih =>
  intro s h
  rcases split_at c s with h1 | ⟨a,b,rfl,ha⟩
  ·rw [cutL_none h1];rfl
  ·rw [cutL_at b ha,uncut_cons c a (cutL_ne c b),ih b (by simp at h;omega)]
def dig2 (l:List UInt8):Bool:=digOk l && decide (l.length<=2)
theorem dig2_num {l:List UInt8} (h:dig2 l=true):numL (valN l)=l∧valN l<=99:=by
 simp only [dig2,Bool.and_eq_true,decide_eq_true_eq] at h
 obtain ⟨h1,h2,h3⟩:=digOk_parts h.1
 have e:=num_of _ l rfl (by intro e;subst e;simp at h1) h3 h2
 refine ⟨e,Nat.le_of_not_lt fun hgt=>?_⟩
 have hl:=h.2
 rw [<- e,numL_more (by omega),numL_more (by omega)] at hl
 have:=numL_ne (valN l / 10 / 10)
 simp at hl
 rw [hl] at this;simp at this
theorem num_dig2 {n:Nat} (h:n<=99):dig2 (numL n)=true:=by
 have h1:=numL_ne n
 have h2:=numL_len 1 n (by simpa using show n < 100 by omega)
 have h4:=numL_lead n
 have:digOk (numL n)=true:=by
  simp only [digOk,Bool.and_eq_true,decide_eq_true_eq,numL_all n,and_true,Bool.not_eq_true',Bool.and_eq_false_iff,decide_eq_false_iff_not]
  refine ⟨by omega,?_⟩
  by_cases h5:1 < (numL n).length
  ·right
   have:=h4 h5
   cases hx:(numL n).head? with
   | none=>rfl
   | some c=>rw [hx] at this;simpa using this
  ·exact .inl h5
 simp [dig2,this];omega
def wordJ:Nat->List UInt8
 | 0=>wCome
 | 1=>wGo
 | 2=>wNeed
 | 3=>wLater
 | _=>wBack
def numJ:Nat->Nat
 | 0=>2
 | 1=>0
 | 2=>1
 | 3=>1
 | _=>0
def deedJ (j:Nat) (r:List (List UInt8)):DV:=⟨j,(valN (r.getD 0 []):Int),(valN (r.getD 1 []):Int)⟩
theorem wordJ_inj {i j:Nat} (hi:i < 5) (hj:j < 5) (h:wordJ i=wordJ j):i=j:=by
 have hi':i=0∨i=1∨i=2∨i=3∨i=4:=by omega
 have hj':j=0∨j=1∨j=2∨j=3∨j=4:=by omega
 rcases hi' with rfl | rfl | rfl | rfl | rfl <;> rcases hj' with rfl | rfl | rfl | rfl | rfl <;> first | rfl | (exact absurd h (by decide))
theorem deed_cut {d:DV} (h:deedL d≠[]):∃ j r,j < 5∧cutL 32 (deedL d)=wordJ j::r∧r.length=numJ j∧r.all dig2=true∧d=deedJ j r:=by
 rcases deed_ways d with h0 | ⟨h1,h2,h3,e⟩ | ⟨h1,h2,h3,e⟩ | ⟨h1,h2,h3,e⟩ | ⟨h1,e⟩ | ⟨h1,e⟩
 ·exact absurd h0 h
 ·refine ⟨0,[numL d.a.toNat,numL d.b.toNat],by omega,by rw [e,cut_three _ _ _ (by decide) (numL_no32 _) (numL_no32 _)];rfl,rfl,?_,?_⟩
  ·simp [num_dig2 (show d.a.toNat<=99 by omega),num_dig2 (show d.b.toNat<=99 by omega)]
  ·obtain ⟨k,a,b⟩:=d
   simp only at h1 h2 h3
   simp [deedJ,numL_val];omega
 ·refine ⟨2,[numL d.a.toNat],by omega,by rw [e,cut_two _ _ (by decide) (numL_no32 _)];rfl,rfl,?_,?_⟩
  ·simp [num_dig2 (show d.a.toNat<=99 by omega)]
  ·obtain ⟨k,a,b⟩:=d
   simp only at h1 h2 h3
   have e0:(valN ([numL a.toNat].getD 1 []):Int)=0:=rfl
   have e1:(valN ([numL a.toNat].getD 0 []):Int)=a:=by rw [List.getD_cons_zero,numL_val];omega
   simp only [deedJ,e0,e1,DV.mk.injEq];exact ⟨h1,trivial,h3⟩
 ·refine ⟨3,[numL d.a.toNat],by omega,by rw [e,cut_two _ _ (by decide) (numL_no32 _)];rfl,rfl,?_,?_⟩
  ·simp [num_dig2 (show d.a.toNat<=99 by omega)]
  ·obtain ⟨k,a,b⟩:=d
   simp only at h1 h2 h3
   have e0:(valN ([numL a.toNat].getD 1 []):Int)=0:=rfl
   have e1:(valN ([numL a.toNat].getD 0 []):Int)=a:=by rw [List.getD_cons_zero,numL_val];omega
   simp only [deedJ,e0,e1,DV.mk.injEq];exact ⟨h1,trivial,h3⟩
 ·exact ⟨1,[],by omega,by rw [e,cutL_none (by decide)];rfl,rfl,rfl,by rw [h1];rfl⟩
 ·exact ⟨4,[],by omega,by rw [e,cutL_none (by decide)];rfl,rfl,rfl,by rw [h1];rfl⟩
theorem deed_of {s:List UInt8} {j:Nat} {r:List (List UInt8)} (hj:j < 5) (hc:cutL 32 s=wordJ j::r) (hl:r.length=numJ j) (hd:r.all dig2=true):deedL (deedJ j r)=s∧s≠[]:=by
 have hs:=uncut_cut 32 _ s (Nat.le_refl _)
 rw [hc] at hs
 have hj':j=0∨j=1∨j=2∨j=3∨j=4:=by omega
 rcases hj' with rfl | rfl | rfl | rfl | rfl
 ·obtain ⟨x,y,rfl⟩:∃ x y,r=[x,y]:=by
   match r,hl with
   | [x,y],_=>exact ⟨x,y,rfl⟩
  simp only [List.all_cons,List.all_nil,Bool.and_eq_true,and_true] at hd
  obtain ⟨e1,l1⟩:=dig2_num hd.1
  obtain ⟨e2,l2⟩:=dig2_num hd.2
  rw [<- hs]
  refine ⟨?_,by simp [uncut,wordJ,wCome]⟩
  simp only [deedJ,deedL,List.getD_cons_zero,List.getD_cons_succ]
  rw [if_pos ⟨rfl,by omega,by omega⟩,Int.toNat_natCast,Int.toNat_natCast,e1,e2]
  simp [uncut,wordJ]
 ·obtain rfl:r=[]:=List.eq_nil_of_length_eq_zero hl
  rw [<- hs]
  exact ⟨by decide,by decide⟩
 ·obtain ⟨x,rfl⟩:∃ x,r=[x]:=by
   match r,hl with
   | [x],_=>exact ⟨x,rfl⟩
  simp only [List.all_cons,List.all_nil,Bool.and_true] at hd
  obtain ⟨e1,l1⟩:=dig2_num hd
  rw [<- hs]
  refine ⟨?_,by simp [uncut,wordJ,wNeed]⟩
  have e0:(valN ([x].getD 1 []):Int)=0:=rfl
  simp only [deedJ,e0,List.getD_cons_zero]
  rw [deedL,if_neg (by simp),if_pos ⟨rfl,by simp only;omega,rfl⟩,Int.toNat_natCast,e1]
  simp [uncut,wordJ]
 ·obtain ⟨x,rfl⟩:∃ x,r=[x]:=by
   match r,hl with
   | [x],_=>exact ⟨x,rfl⟩
  simp only [List.all_cons,List.all_nil,Bool.and_true] at hd
  obtain ⟨e1,l1⟩:=dig2_num hd
  rw [<- hs]
  refine ⟨?_,by simp [uncut,wordJ,wLater]⟩
  have e0:(valN ([x].getD 1 []):Int)=0:=rfl
  simp only [deedJ,e0,List.getD_cons_zero]
  rw [deedL,if_neg (by simp),if_neg (by simp),if_pos ⟨rfl,by simp only;omega,rfl⟩,Int.toNat_natCast,e1]
  simp [uncut,wordJ]
 ·obtain rfl:r=[]:=List.eq_nil_of_length_eq_zero hl
  rw [<- hs]
  exact ⟨by decide,by decide⟩
theorem read_yes {s:List UInt8} {j:Nat} {r:List (List UInt8)} (hj:j < 5) (hc:cutL 32 s=wordJ j::r) (hl:r.length=numJ j) (hd:r.all dig2=true):readD s=some (deedJ j r):=by
 obtain ⟨e,hne⟩:=deed_of hj hc hl hd
 have:=deed_read (deedJ j r) (by rw [e];exact hne)
 rwa [e] at this
theorem read_bad {s:List UInt8} {j:Nat} {r:List (List UInt8)} (hj:j < 5) (hc:cutL 32 s=wordJ j::r) (hn:¬ (r.length=numJ j∧r.all dig2=true)):readD s=none:=by
 cases h:readD s with
 | none=>rfl
 | some d =>
  obtain ⟨e,hne⟩:=read_text h
  subst e
  obtain ⟨i,r',hi,hc',hl',hd',-⟩:=deed_cut hne
  rw [hc] at hc'
  injection hc' with e1 e2
  have:=wordJ_inj hj hi e1
  subst this e2
  exact absurd ⟨hl',hd'⟩ hn
theorem read_none {s x:List UInt8} {r:List (List UInt8)} (hc:cutL 32 s=x::r) (hn:∀ j,j < 5->x≠wordJ j):readD s=none:=by
 cases h:readD s with
 | none=>rfl
 | some d =>
  obtain ⟨e,hne⟩:=read_text h
  subst e
  obtain ⟨i,r',hi,hc',-,-,-⟩:=deed_cut hne
  rw [hc] at hc'
  injection hc' with e1 e2
  exact absurd e1 (hn i hi)
theorem cut_cons (c:UInt8) (s:List UInt8):∃ x r,cutL c s=x::r:=by
 cases h:cutL c s with
 | nil=>exact absurd h (cutL_ne c s)
 | cons x r=>exact ⟨x,r,rfl⟩
theorem cut_len {c:UInt8} {s:List UInt8}:∀ x ∈ cutL c s,x.length<=s.length:=by
 have key:∀ (ws:List (List UInt8)) (x:List UInt8),x ∈ ws->x.length<=(uncut c ws).length:=by
  intro ws
  induction ws with
  | nil=>intro x h;cases h
  | cons y r ih =>
   intro x h
   cases r with
   | nil=>rcases List.mem_cons.1 h with rfl | h
          ·exact Nat.le_refl _
          ·cases h
   | cons z r =>
    rw [uncut_cons c y (by simp),List.length_append,List.length_cons]
    rcases List.mem_cons.1 h with rfl | h
    ·omega
    ·have:=ih x h;omega
 intro x h
 have:=key _ x h
 rwa [uncut_cut c _ s (Nat.le_refl _)] at this
end
section
theorem intsI_news {w:World} {b off:Nat} {L:List Int} (h:∀ k,k < L.length->w.cell? ⟨b,off+k,none⟩=some (.int .i64 (Z L k))):∀ j u,(L.map (Value.int .i64))[j]?=some u->w.cell? ((⟨b,off,none⟩:Addr).add j)=some u:=by
 intro j u hj
 have hjl:j < L.length:=by have:=(List.getElem?_eq_some_iff.1 hj).1;simpa using this
 have e:(⟨b,off,none⟩:Addr).add j=⟨b,off+j,none⟩:=by by_cases e:j=0 <;> simp [Addr.add,e]
 rw [e,h j hjl,<- hj]
 simp [Z,hjl]
theorem intsI_one (L:List Int):∀ u ∈ L.map (Value.int .i64),u.oneCell'=true:=by
 intro u hu
 obtain ⟨c,_,rfl⟩:=List.mem_map.1 hu
 rfl
theorem Is.one (w:World) (x:Int):Is (w.alloc (.cells #[.int .i64 x] 3)) (w.heap.size+1) (some ⟨w.heap.size,0,none⟩) [x]:=by
 intro _
 refine ⟨w.heap.size,0,rfl,by omega,fun k hk=>?_⟩
 obtain rfl:k=0:=by simpa using hk
 have hz:=heap_alloc_new w (.cells #[.int .i64 x] 3)
 simp [cell_of_row _ w.heap.size 0 _ _ _ hz,Z]
section
variable {w:World}
theorem app_II {ops:Array Oper} {rest:List Oper} {o:Oper} {a:Act} {Q:Exit->Act->World->Prop} (hw:Region.wanted o (yielded ops a.tmps)=true) (s x:Operand)
  (ho:o.op=.call { callee:=.builtin .append,args:=#[s,x],argTypes:=#[85,85] })
  (base:Nat) (v:Value) (M L:List Int) (A:Option Addr) (c B:Nat) (hs:a.eval s=v) (hown:IO w base v M) (hx:a.eval x=.slice A L.length c)
  (hI:Is w B A L) (hlen:M.length+L.length<=1000000000000) (hbase:base<=w.heap.size)
  (h:∀ G cap w',IO w' base (.slice G (M.length+L.length) cap) (M++L)->w.grownBy w' v.ownBlock->Below base w w'->wpList Tryz.prog ops Q rest (a.put o.dst (.slice G (M.length+L.length) cap)) w') :
  wpList Tryz.prog ops Q (o::rest) a w:=by
 obtain ⟨i0,hi,hz0,hz1,hz2⟩:=info_parts infoI
 show if Region.wanted o (yielded ops a.tmps) then _ else _
 rw [if_pos hw]
 refine Or.inl ?_
 by_cases hp:0 < L.length
 ·obtain ⟨b,off,rfl,-,hc⟩:=hI hp
  refine wp_append_lies w s x _ ho base 3 i0 _ 1 8 Tryz.underlying85 hi hz0 hz1 hz2 rfl (by decide) v M.length _ hs hown
   ⟨b,off,none⟩ L.length c (L.map (Value.int .i64)) hx (by simp) (intsI_news hc) (intsI_one L) hp (by simp only [maxLen];omega) (by omega) hbase _ rfl ?_
  intro g cap w' h1 h2 _ _
  exact h (some ⟨g,0,none⟩) cap w' (by simpa [IO] using h1) h2 ((Below.refl _ _).grown h2 hbase (owns_base hown))
 ·have h0:L=[]:=List.eq_nil_of_length_eq_zero (by omega)
  subst h0
  obtain ⟨G,g,rfl,hg1,-,-⟩:=hown.form
  have hsrc:Src Tryz.prog i0.size 85 (.slice A 0 c) 0 [] w:=⟨.inl ⟨_,Tryz.underlying85⟩,fun w'=>by simp [Builtin.lenOf],by cases A <;> simp [Builtin.firstCells,loadCells,loadCellsFrom],by cases A <;> simp [Builtin.firstCells,loadCells,loadCellsFrom],by simp,fun u hu=>by cases hu⟩
  have hr:=run_append_nothing (P:=Tryz.prog) w 85 85 o.type 3 i0 Tryz.underlying85 hi G M.length g hg1 (.slice A 0 c) hsrc
  have hx':a.eval x=.slice A 0 c:=hx
  unfold Oper.wp execOp
  simp only [ho,resolve,invoke,builtin,Sem.run_bind,Sem.run_pure,Result.andThen_ok,List.map_toArray,List.map_cons,List.map_nil,hs,hx',hr]
  exact h G g w (by simpa using hown) ⟨rfl,rfl,rfl,Nat.le_refl _,fun _ _ _=>rfl⟩ (Below.refl _ _)
end
section
variable {w:World}
theorem make_I {ops:Array Oper} {rest:List Oper} {o:Oper} {a:Act} {Q:Exit->Act->World->Prop} (hgd:o.guard=none) (s:Operand) (ho:o.op=.makeSlice 85 s s)
  (base:Nat) (n:Nat) (hs:a.eval s=.int .i64 (n:Int)) (hn:n<=1000000) (hbase:base<=w.heap.size)
  (h:∀ w',IO w' base (.slice (some ⟨w.heap.size,0,none⟩) n n) (List.replicate n 0)->w.grownBy w' none->wpList Tryz.prog ops Q rest (a.put o.dst (.slice (some ⟨w.heap.size,0,none⟩) n n)) w') :
  wpList Tryz.prog ops Q (o::rest) a w:=by
 obtain ⟨i0,hi,hz0,hz1,hz2⟩:=info_parts infoI
 refine wpList_make_full w hgd s s _ ho base 3 i0 _ 1 Tryz.underlying85 hi hz0 hz1 .i64 .i64 n n n hs hs rfl rfl (by rw [hz2];omega) (by simp only [maxLen];omega) hbase ?_
 intro w' h1 h2
 refine h w' ?_ h2
 have e:(madeCells (Value.int .i64 0).cells (n * 1)).toList=(List.replicate n (0:Int)).map (Value.int .i64):=by
  rw [List.map_replicate,Nat.mul_one];exact toList_madeCells_one _ _
 unfold IO
 rw [<- e,List.length_replicate]
 exact h1
end
end
section
theorem Ss.take {w:World} {B:Nat} {A:Option Addr} {L:List (List UInt8)} (h:Ss w B A L) (m:Nat):Ss w B A (L.take m):=by
 intro hn
 rw [List.length_take] at hn
 obtain ⟨b,off,rfl,hlt,hc⟩:=h (by omega)
 refine ⟨b,off,rfl,hlt,fun k hk=>?_⟩
 rw [List.length_take] at hk
 have e:ZS (L.take m) k=ZS L k:=by simp [ZS,List.getD_eq_getElem?_getD,List.getElem?_take_of_lt (show k < m by omega)]
 rw [e]
 exact hc k (by omega)
theorem Ss.drop {w:World} {B b off:Nat} {L:List (List UInt8)} (h:Ss w B (some ⟨b,off,none⟩) L) (m:Nat):Ss w B (some ⟨b,off+m,none⟩) (L.drop m):=by
 intro hn
 rw [List.length_drop] at hn
 obtain ⟨b2,off2,e,hlt,hc⟩:=h (by omega)
 injection e with e
 injection e with e1 e2 _
 subst e1 e2
 refine ⟨b,off+m,rfl,hlt,fun k hk=>?_⟩
 rw [List.length_drop] at hk
 have e:ZS (L.drop m) k=ZS L (m+k):=by simp [ZS,List.getD_eq_getElem?_getD]
 rw [e,show off+m+k=off+(m+k) by omega]
 exact hc (m+k) (by omega)
theorem SO.formE {w:World} {base:Nat} {v:Value} {L:List (List UInt8)} (h:SO w base v L):∃ A c,v=.slice A L.length c∧L.length<=c∧((A=none∧c=0)∨∃ g,A=some ⟨g,0,none⟩)∧Ss w w.heap.size A L:=by
 obtain ⟨A,c,e,h1,-,h2⟩:=h.form
 refine ⟨A,c,e,h1,?_,h2⟩
 rcases h.2 with ⟨e2,-⟩ | ⟨g,cap,cur,e2,-⟩
 ·rw [e2] at e;injection e with e3 e4 e5;exact .inl ⟨e3.symm,e5.symm⟩
 ·rw [e2] at e;injection e with e3 e4 e5;exact .inr ⟨g,e3.symm⟩
section
variable {w:World}
end
end
section
attribute [local go_sem ↓] Go.wp_at_zero Go.wp_at_succ
theorem Z_workTo {L:List (Int×Int)} {n k:Nat} (h:k < n):Z (workTo L n) k=wk L k:=by simp [Z,workTo,h]
theorem c_l3Work (L:List (Int×Int)) (h:cOk L=true) (A:Option Addr) (c:Nat) (m:Nat) (hm:m<=200) (w:World) (hA:Cs w w.heap.size A L) (hn:L.length<=140737488351232) :
  Calls Tryz.prog 121 #[.slice A L.length c,.int .i64 m] w fun e w'=>∃ v,e=.returned v∧IO w' w.heap.size v (workTo L (m+1))∧Below w.heap.size w w':=by
 have Hbd:=Lib.hid (fun k=>@cOk_bd L k h)
 have Harr:=Lib.hid (fun t j hj=>@arrTo_nn L h t j hj)
 have Hwk:=Lib.hid (fun t=>@wk_bd L h t)
 have hlen:=cOk_len h
 clear h
 go_enter Tryz.func121,Tryz.ntmps121
 go_wp2_with fail
 go_loopw [5,6,7] (fun o s i wr=>∃ t:Nat,t<=m+1∧i=.int .i64 t∧s=.int .i64 (carry L t)∧IO wr w.heap.size o (workTo L t)∧Below w.heap.size w wr)
  (fun _ _ i _=>m+1 - (intOf i).toNat)
 case atStart=>exact ⟨0,by omega,rfl,rfl,IO.empty _ (Nat.le_refl _),by (repeat (first | exact rfl | exact Below.refl _ _ | (with_reducible refine Below.drew ?_) | (with_reducible refine Below.drewN ?_ _) | (with_reducible refine Below.alloc ?_ ?_ _) | (with_reducible refine Below.setCell ?_ ?_ _) | (show _<=_;focus (first | omega | (simp;done) | (simp;omega)))))⟩
 case round =>
  obtain ⟨t,ht,rfl,rfl,hown,hb⟩:=hrel
  have hsz:=hb.size
  by_cases hlt:t<=m
  ·have bw:=Hwk.out t
   have hwc:=wk_carry L t
   have bc:0<=carry L t∧carry L t<=72:=by
    have:=(Harr.out (t:Int) L.length (Nat.le_refl _)).1
    cases t with
    | zero=>simp [carry]
    | succ u=>have:=Hwk.out u;simp only [carry];omega
   have HWC:=Lib.hid hwc
   clear hwc
   go_wp2_with fail
   go_loop [6,8] (fun s i=>∃ j:Nat,j<=L.length∧i=.int .i64 j∧s=.int .i64 (carry L t+arrTo L t j))
    (fun _ i=>L.length - (intOf i).toNat)
   case atStart=>exact ⟨0,by omega,rfl,by simp [arrTo]⟩
   case round =>
    obtain ⟨j,hj,rfl,rfl⟩:=hrel
    by_cases hjl:j < L.length
    ·obtain ⟨b,off,rfl,hlb,hc⟩:=hA (by omega)
     have c1:=(hb.cell (p:=⟨b,off+j * 2,none⟩) hlb).trans (hc j hjl).1
     have c2:=(hb.cell (p:=⟨b,off+j * 2+1,none⟩) hlb).trans (hc j hjl).2
     clear hc
     have b1:=Harr.out (t:Int) j (by omega)
     have b2:=Hbd.out j hjl
     by_cases he:X L j=t
     ·have heb:(X L j == (t:Int))=true:=beq_iff_eq.2 he
      have E:=Lib.hid (show arrTo L t (j+1)=arrTo L t j+Y L j by simp only [arrTo];rw [if_pos he])
      clear he
      go_wp2_with fail
      go_round
      case rel=>exact ⟨j+1,by omega,by go_num,by rw [E.out];simp;omega⟩
      case measure=>simp [intOf];omega
     ·have heb:(X L j == (t:Int))=false:=beq_eq_false_iff_ne.2 he
      have E:=Lib.hid (show arrTo L t (j+1)=arrTo L t j by simp only [arrTo];rw [if_neg he];omega)
      clear he
      go_wp2_with fail
      go_round
      case rel=>exact ⟨j+1,by omega,by go_num,by rw [E.out]⟩
      case measure=>simp [intOf];omega
    ·have hjf:¬ ((j:Int) < (L.length:Int)):=by omega
     have hv:carry L t+arrTo L t j=wk L t:=by rw [HWC.out,show j=L.length by omega];rfl
     rw [hv]
     clear hv
     have q5:(workTo L t).length<=1000000000000:=by rw [workTo_len];omega
     go_wp2_with (refine app_I ?_ (.tmp 35) (.tmp 37) ?_ w.heap.size u5 (workTo L t) (wk L t) wr.heap.size ?_ ?_ ?_ ?_ ?_ ?_ ?_;rfl;rfl;rfl;exact (hown.alloc _);rfl;exact (heap_alloc_new _ _);exact q5;exact (Nat.le_trans hsz (by simp));intro g7 cap w7 hown7 hgr7 hb7)
     go_roundw
     case rel =>
      refine ⟨t+1,by omega,by go_num,?_,by rw [workTo_succ];exact hown7,?_⟩
      ·simp only [carry]
       congr 1
       split <;> omega
      ·refine Below.trans ?_ hb7
       (repeat (first | exact hb | exact Below.refl _ _ | (with_reducible refine Below.drew ?_) | (with_reducible refine Below.drewN ?_ _) | (with_reducible refine Below.alloc ?_ ?_ _) | (with_reducible refine Below.setCell ?_ ?_ _) | (show _<=_;focus (first | omega | (simp;done) | (simp;omega)))))
     case measure=>simp [intOf];omega
  ·have hlf:¬ ((t:Int)<=(m:Int)):=by omega
   go_wp2_with fail
   go_ret
   refine ⟨_,rfl,?_,hb⟩
   rw [show m+1=t by omega]
   exact hown
theorem c_sWorkAt (L:List (Int×Int)) (A:Option Addr) (c:Nat) (t:Int) (w:World) (hA:Cs w w.heap.size A L) (hn:L.length<=140737488351232) :
  Calls Tryz.prog 77 #[.slice A L.length c,.int .i64 t] w fun e w'=>e=.returned (.int .i64 (workV L t))∧Below w.heap.size w w':=by
 by_cases hp:momentOk L t=true
 ·have HV:=Lib.hid (workV_yes hp)
  obtain ⟨n,rfl,hn2,h⟩:=momentOk_nat hp
  have ht':decide ((0:Int)<=(n:Int)∧(n:Int)<=200)=true:=by simp;omega
  have hlen:=cOk_len h
  have H:=Lib.hid h;clear h hp
  go_enter Tryz.func77,Tryz.ntmps77
  go_wp2_with fail
  refine (c_sCustomersOk L A c _ hA hn).mono ?_
  rintro e w1 ⟨rfl,hb1⟩
  rw [H.out]
  go_wp2_with fail
  refine (c_l1In _ _ _ _).mono ?_
  rintro e w' ⟨rfl,rfl⟩
  rw [ht']
  clear ht'
  have hs1:=hb1.size
  go_wp2_with fail
  refine (c_l3Work L H.out A c n hn2 _ ((hA.below hb1).more hs1) hn).mono ?_
  rintro e w2 ⟨v,rfl,o2,hb2⟩
  obtain ⟨G,g,rfl,-,hG⟩:=o2.formG
  rw [workTo_len] at hG ⊢
  obtain ⟨gb,rfl,-,hgb,hgc⟩:=hG (by omega)
  have HGC:=Lib.hid hgc
  have k1:(0:Int)<=(n:Int):=by omega
  have k2:(n:Int) < ((n+1:Nat):Int):=by omega
  have hb3:=hb1.trans (hb2.mono hs1)
  clear hG hgc o2 hb2 hb1
  have c1:=HGC.out n (by omega)
  rw [Z_workTo (by omega)] at c1
  go_wp2_with fail
  go_ret
  exact ⟨by rw [HV.out];rfl,hb3⟩
 ·have hpn:momentOk L t=false:=by simpa using hp
  have HV:=Lib.hid (workV_no hpn)
  by_cases h:cOk L=true
  ·have ht':decide (0<=t∧t<=200)=false:=by simpa [momentOk,h] using hpn
   have H:=Lib.hid h;clear h hp hpn
   go_enter Tryz.func77,Tryz.ntmps77
   go_wp2_with fail
   refine (c_sCustomersOk L A c _ hA hn).mono ?_
   rintro e w1 ⟨rfl,hb1⟩
   rw [H.out]
   go_wp2_with fail
   refine (c_l1In _ _ _ _).mono ?_
   rintro e w' ⟨rfl,rfl⟩
   rw [ht']
   clear ht'
   go_wp2_with fail
   go_ret
   exact ⟨by rw [HV.out];rfl,hb1⟩
  ·have hno:cOk L=false:=by simpa using h
   have H:=Lib.hid hno;clear h hno hp hpn
   go_enter Tryz.func77,Tryz.ntmps77
   go_wp2_with fail
   refine (c_sCustomersOk L A c _ hA hn).mono ?_
   rintro e w1 ⟨rfl,hb1⟩
   rw [H.out]
   go_wp2_with fail
   go_ret
   exact ⟨by rw [HV.out];rfl,hb1⟩
end
section
attribute [local go_sem ↓] Go.wp_at_zero Go.wp_at_succ
def rows (B:List (Int×Int)):List (List Int):=B.map fun c=>[c.1,c.2]
theorem rows_len (B:List (Int×Int)):(rows B).length=B.length:=by simp [rows]
theorem rows_app (B:List (Int×Int)) (c:Int×Int):rows (B++[c])=rows B++[[c.1,c.2]]:=by simp [rows]
theorem rows_set (B:List (Int×Int)) (n:Nat) (c:Int×Int):rows (B.set n c)=(rows B).set n [c.1,c.2]:=by simp [rows]
theorem rows_get {B:List (Int×Int)} {k:Nat} (h:k < B.length):(rows B).getD k []=[X B k,Y B k]:=by simp [rows,X,Y,h]
theorem heap_new2' (w:World) (o p:Obj):((w.alloc o).alloc p).heap[w.heap.size+1]?=some p:=by
 have h:=heap_alloc_new (w.alloc o) p
 rwa [show (w.alloc o).heap.size=w.heap.size+1 by simp] at h
theorem alloc_setLow (w:World) (o:Obj) (g k:Nat) (u:Value) (h:g < w.heap.size):(w.alloc o).setCell ⟨g,k,none⟩ u=(w.setCell ⟨g,k,none⟩ u).alloc o:=by
 simp only [World.alloc,World.setCell]
 congr 1
 apply Array.ext_getElem?
 intro i
 simp only [Array.getElem?_modify,Array.getElem?_push,Array.size_modify]
 by_cases e:i=w.heap.size
 ·subst e;simp;omega
 ·simp [e]
theorem IO.lit2 (w:World) {base:Nat} (hb:base<=w.heap.size) (x y:Int):IO (w.alloc (.cells #[.int .i64 x,.int .i64 y] 3)) base (.slice (some ⟨w.heap.size,0,none⟩) 2 2) [x,y] :=
 ⟨rfl,.inr ⟨w.heap.size,2,#[.int .i64 x,.int .i64 y],rfl,hb,heap_alloc_new _ _,Nat.le_refl _,by simp [maxLen],rfl,rfl⟩⟩
theorem Mid.setOut {lo hi g k:Nat} {w1 w:World} {u:Value} (h:Mid lo hi w1 w) (hg:g=lo∨hi<=g):Mid lo hi w1 (w.setCell ⟨g,k,none⟩ u):=fun b h1 h2 =>
 (Below.heap_setCell _ _ _ _ (by show b≠g;omega)).trans (h b h1 h2)
theorem IOO.pair {w:World} {base:Nat} {v:Value} {B:List (Int×Int)} {vs:List Value} (h:IOO w base v (rows B) vs) {k:Nat} (hk:k < B.length) :
  ∃ ib ic,vs.getD k undef=.slice (some ⟨ib,0,none⟩) 2 ic∧base<=ib∧ib < w.heap.size∧w.cell? ⟨ib,0,none⟩=some (.int .i64 (X B k))∧w.cell? ⟨ib,1,none⟩=some (.int .i64 (Y B k)):=by
 have hi:=h.inner k (by rw [rows_len];exact hk)
 rw [rows_get hk] at hi
 obtain ⟨A,c,hv,_,hc⟩:=hi.formG
 obtain ⟨ib,rfl,h1,h2,h3⟩:=hc (by simp)
 exact ⟨ib,c,hv,h1,h2,h3 0 (by simp),h3 1 (by simp)⟩
theorem c_sBusyOf (L:List (Int×Int)) (A:Option Addr) (c:Nat) (w:World) (hA:Cs w w.heap.size A L) (hn:L.length<=140737488351232) :
  Calls Tryz.prog 71 #[.slice A L.length c] w fun e w'=>∃ v,e=.returned v∧(∃ vs,IOO w' w.heap.size v (rows (busyP L)) vs)∧Below w.heap.size w w':=by
 by_cases h:cOk L=true
 ·have HV:=Lib.hid (busyP_yes h)
  have hlen:=cOk_len h
  have H:=Lib.hid h;clear h
  go_enter Tryz.func71,Tryz.ntmps71
  go_wp2_with fail
  have hb0:Below w.heap.size w (w.alloc (.cells #[] 85)):=by (repeat (first | exact rfl | exact Below.refl _ _ | (with_reducible refine Below.drew ?_) | (with_reducible refine Below.drewN ?_ _) | (with_reducible refine Below.alloc ?_ ?_ _) | (with_reducible refine Below.setCell ?_ ?_ _) | (show _<=_;focus (first | omega | (simp;done) | (simp;omega)))))
  refine (c_sCustomersOk L A c _ ((hA.below hb0).more hb0.size) hn).mono ?_
  rintro e w5 ⟨rfl,hb5⟩
  rw [H.out]
  have hbx:=hb0.trans (hb5.mono hb0.size)
  have own0:=(IOO.empty w (Nat.le_refl _)).below hb5 (Nat.le_refl _)
  have hsx:w.heap.size < w5.heap.size:=by have:=hb5.size;simp at this;omega
  clear hb0 hb5
  go_wp2_with fail
  refine (c_l3Work L H.out A c 200 (by omega) _ ((hA.below hbx).more hbx.size) hn).mono ?_
  rintro e w1 ⟨v1,rfl,o1,hb1⟩
  obtain ⟨G,g,rfl,-,hG⟩:=o1.formG
  rw [workTo_len] at hG ⊢
  obtain ⟨gb,rfl,hgb1,hgb,hgc⟩:=hG (by omega)
  have HGC:=Lib.hid hgc
  have hgbs:w.heap.size < gb:=by omega
  have hby:=hbx.trans (hb1.mono (by omega))
  have own1:=own0.below hb1 (Nat.le_refl _)
  have HM:=Lib.hid (And.intro hgbs (And.intro hgb (show w.heap.size<=w1.heap.size by omega)))
  clear hG hgc o1 hb1 own0 hbx hgbs hgb hgb1 hsx
  go_wp2_with fail
  go_loopw [3,5] (fun o i wr=>∃ (t:Nat) (vs:List Value),t<=200∧i=.int .i64 t∧IOO wr w.heap.size o (rows (busyT L t)) vs∧Hid (Sep w.heap.size w1.heap.size o)∧Hid (Mid w.heap.size w1.heap.size w1 wr)∧w1.heap.size<=wr.heap.size∧Below w.heap.size w wr)
   (fun _ i _=>200 - (intOf i).toNat)
  case atStart=>exact ⟨0,_,by omega,rfl,own1,Sep.lo _ _ _ _,Mid.refl _ _ _,Nat.le_refl _,hby⟩
  case round =>
   obtain ⟨t,vs,ht,rfl,hown,hsep,hmid,hz1,hb⟩:=hrel
   have hsz:=hb.size
   by_cases hlt:t < 200
   ·have c1:wr.cell? ⟨gb,t,none⟩=some (.int .i64 (wk L t)):=by
     rw [hmid.out.cell HM.out.1 HM.out.2.1,HGC.out t (by omega),Z_workTo (by omega)]
    have p1:(0:Int)<=(t:Int):=by omega
    have p2:(t:Int) < ((200+1:Nat):Int):=by omega
    have p3:(t:Int) < 200:=by omega
    by_cases hw:wk L t=0
    ·have hwb:(wk L t == 0)=true:=beq_iff_eq.2 hw
     have E:=Lib.hid (show busyT L (t+1)=busyT L t by simp only [busyT];rw [if_pos hw])
     clear hw
     go_wp2_with fail
     go_roundw
     case rel=>exact ⟨t+1,vs,by omega,by go_num,by rw [E.out];exact hown,hsep,hmid,hz1,hb⟩
     case measure=>simp [intOf];omega
    ·have hwb:(wk L t == 0)=false:=beq_eq_false_iff_ne.2 hw
     have E:=Lib.hid (show busyT L (t+1)=busyNext (busyT L t) t by simp only [busyT];rw [if_neg hw])
     clear hw
     have hbl:=busyT_len L t
     generalize busyT L t=B at hown E hbl
     obtain ⟨O,oc,rfl,hoc,-,hO⟩:=hown.form
     rw [rows_len] at hO hown hsep ⊢
     have HO:=Lib.hid hO
     have HOC:=Lib.hid hoc
     clear hO hoc
     by_cases hB0:B.length=0
     ·have hB':B=[]:=List.eq_nil_of_length_eq_zero hB0
      have E2:=Lib.hid (show rows (busyNext B t)=rows B++[[(t:Int),(t:Int)+1]] by rw [hB'];rfl)
      have hq1:(B.length:Int) < 1:=by omega
      have hq2:(B.length:Int) - 1 < 0:=by omega
      clear hB' hB0
      have q5:(rows B).length<=1000000000:=by rw [rows_len];omega
      have hW:Below wr.heap.size wr ((wr.alloc (.cells #[.int .i64 (t:Int),.int .i64 ((t:Int)+1)] 3)).alloc (.cells #[.slice (some ⟨wr.heap.size,0,none⟩) 2 2] 85)):=by (repeat (first | exact rfl | exact Below.refl _ _ | (with_reducible refine Below.drew ?_) | (with_reducible refine Below.drewN ?_ _) | (with_reducible refine Below.alloc ?_ ?_ _) | (with_reducible refine Below.setCell ?_ ?_ _) | (show _<=_;focus (first | omega | (simp;done) | (simp;omega)))))
      have HU:=Lib.hid (And.intro hsz (And.intro hz1 (And.intro q5 hW)))
      clear hsz hz1 q5 hW
      go_wp2_with (refine app_OO ?_ (.tmp 50) (.tmp 55) ?_ w.heap.size (.slice O B.length oc) (rows B) vs wr (.slice (some ⟨wr.heap.size,0,none⟩) 2 2) [(t:Int),(t:Int)+1] (wr.heap.size+1) ?_ ?_ ?_ ?_ ?_ ?_ ?_ ?_ ?_ ?_ w.heap.size w1.heap.size w1 ?_ ?_ ?_ ?_;rfl;rfl;rfl;exact hown;exact HU.out.2.2.2;exact ((IO.lit2 wr HU.out.1 _ _).alloc _);(intro r e;simp [Value.ownBlock] at e;omega);rfl;rfl;exact (heap_new2' _ _ _);exact HU.out.2.2.1;exact (Nat.le_trans HU.out.1 HU.out.2.2.2.size);exact hsep.out;exact (hmid.out.below HU.out.2.2.2 HU.out.2.1);exact (Nat.le_trans HU.out.2.1 HU.out.2.2.2.size);intro g7 cap w7 hown7 hb70 hsep7 hmid7)
      have hz7:=hb70.size
      obtain ⟨hsz,hz1,-,hW⟩:=HU.out
      have hW2:=hW.size
      go_roundw
      case rel =>
       refine ⟨t+1,_,by omega,by go_num,by rw [E.out,E2.out];exact hown7,hsep7,hmid7,by omega,?_⟩
       exact (hb.trans (hW.mono hsz)).trans hb70
      case measure=>simp [intOf];omega
     ·have hpos:0 < B.length:=by omega
      obtain ⟨g0,rfl,hg0,hg0lt,hcl,hfz⟩:=HO.out hpos
      have d0:=hcl (B.length - 1) (by omega)
      obtain ⟨ib,ic,hvs,hib,hiblt,e1,e2⟩:=hown.pair (k:=B.length - 1) (by omega)
      rw [hvs] at d0
      have f0:=hfz (B.length - 1)
      have k1:(0:Int)<=(B.length:Int) - 1:=by omega
      have k2:(B.length:Int) - 1 < (B.length:Int):=by omega
      have k3:(1:Int)<=(B.length:Int):=by omega
      have k4:(B.length:Int)<=200:=by omega
      have k5:((B.length:Int) - 1).toNat=B.length - 1:=by omega
      have HVS:=Lib.hid hvs
      clear hcl hfz hvs HO hB0
      by_cases hy:Y B (B.length - 1)=t
      ·have hyb:(Y B (B.length - 1) == (t:Int))=true:=beq_iff_eq.2 hy
       have hl:lastIs B t=true:=decide_eq_true ⟨hpos,hy⟩
       have E2:=Lib.hid (show rows (busyNext B t)=(rows B).set (B.length - 1) [X B (B.length - 1),(t:Int)+1] by rw [busyNext,if_pos hl,rows_set])
       have hW:Below wr.heap.size wr (wr.alloc (.cells #[.int .i64 (X B (B.length - 1)),.int .i64 ((t:Int)+1)] 3)):=by (repeat (first | exact rfl | exact Below.refl _ _ | (with_reducible refine Below.drew ?_) | (with_reducible refine Below.drewN ?_ _) | (with_reducible refine Below.alloc ?_ ?_ _) | (with_reducible refine Below.setCell ?_ ?_ _) | (show _<=_;focus (first | omega | (simp;done) | (simp;omega)))))
       have hst:=hown.store (sl:=.slice (some ⟨wr.heap.size,0,none⟩) 2 2) (ys:=[X B (B.length - 1),(t:Int)+1]) hW (IO.lit2 wr hsz _ _) (by intro r e;simp [Value.ownBlock] at e;omega) (B.length - 1) (by omega)
       have hst2:=(hmid.out.below hW hz1).setOut (g:=g0) (k:=B.length - 1) (u:=.slice (some ⟨wr.heap.size,0,none⟩) 2 2) (hsep.out g0 (by simp [Value.ownBlock]))
       have hst3:=(hb.trans (hW.mono hsz)).setCell (p:=⟨g0,B.length - 1,none⟩) hg0 (.slice (some ⟨wr.heap.size,0,none⟩) 2 2)
       have hst4:w1.heap.size<=((wr.alloc (.cells #[.int .i64 (X B (B.length - 1)),.int .i64 ((t:Int)+1)] 3)).setCell ⟨g0,B.length - 1,none⟩ (.slice (some ⟨wr.heap.size,0,none⟩) 2 2)).heap.size:=by simp [World.setCell];omega
       rw [alloc_setLow wr _ _ _ _ hg0lt] at hst hst2 hst3 hst4
       have HS:=Lib.hid (And.intro hst (And.intro hst2 (And.intro hst3 hst4)))
       clear hst hst2 hst3 hst4 hW hl hy
       go_wp2_with fail
       go_roundw
       case rel=>exact ⟨t+1,_,by omega,by go_num,by rw [E.out,E2.out];exact HS.out.1,hsep,HS.out.2.1,HS.out.2.2.2,HS.out.2.2.1⟩
       case measure=>simp [intOf];omega
      ·have hyb:(Y B (B.length - 1) == (t:Int))=false:=beq_eq_false_iff_ne.2 hy
       have hl:lastIs B t=false:=decide_eq_false (fun h=>hy h.2)
       have E2:=Lib.hid (show rows (busyNext B t)=rows B++[[(t:Int),(t:Int)+1]] by rw [busyNext,hl,if_neg (by simp),rows_app])
       clear hl hy
       have q5:(rows B).length<=1000000000:=by rw [rows_len];omega
       have hW:Below wr.heap.size wr ((wr.alloc (.cells #[.int .i64 (t:Int),.int .i64 ((t:Int)+1)] 3)).alloc (.cells #[.slice (some ⟨wr.heap.size,0,none⟩) 2 2] 85)):=by (repeat (first | exact rfl | exact Below.refl _ _ | (with_reducible refine Below.drew ?_) | (with_reducible refine Below.drewN ?_ _) | (with_reducible refine Below.alloc ?_ ?_ _) | (with_reducible refine Below.setCell ?_ ?_ _) | (show _<=_;focus (first | omega | (simp;done) | (simp;omega)))))
       have HU:=Lib.hid (And.intro hsz (And.intro hz1 (And.intro q5 hW)))
       clear hsz hz1 q5 hW
       go_wp2_with (refine app_OO ?_ (.tmp 50) (.tmp 55) ?_ w.heap.size (.slice (some ⟨g0,0,none⟩) B.length oc) (rows B) vs wr (.slice (some ⟨wr.heap.size,0,none⟩) 2 2) [(t:Int),(t:Int)+1] (wr.heap.size+1) ?_ ?_ ?_ ?_ ?_ ?_ ?_ ?_ ?_ ?_ w.heap.size w1.heap.size w1 ?_ ?_ ?_ ?_;rfl;rfl;rfl;exact hown;exact HU.out.2.2.2;exact ((IO.lit2 wr HU.out.1 _ _).alloc _);(intro r e;simp [Value.ownBlock] at e;omega);rfl;rfl;exact (heap_new2' _ _ _);exact HU.out.2.2.1;exact (Nat.le_trans HU.out.1 HU.out.2.2.2.size);exact hsep.out;exact (hmid.out.below HU.out.2.2.2 HU.out.2.1);exact (Nat.le_trans HU.out.2.1 HU.out.2.2.2.size);intro g7 cap w7 hown7 hb70 hsep7 hmid7)
       have hz7:=hb70.size
       obtain ⟨hsz,hz1,-,hW⟩:=HU.out
       have hW2:=hW.size
       go_roundw
       case rel =>
        refine ⟨t+1,_,by omega,by go_num,by rw [E.out,E2.out];exact hown7,hsep7,hmid7,by omega,?_⟩
        exact (hb.trans (hW.mono hsz)).trans hb70
       case measure=>simp [intOf];omega
   ·have hlf:¬ ((t:Int) < 200):=by omega
    go_wp2_with fail
    go_ret
    refine ⟨_,rfl,⟨vs,?_⟩,hb⟩
    rw [HV.out,show (200:Nat)=t by omega]
    exact hown
 ·have hno:cOk L=false:=by simpa using h
  have HV:=Lib.hid (busyP_no hno)
  have H:=Lib.hid hno;clear h hno
  go_enter Tryz.func71,Tryz.ntmps71
  go_wp2_with fail
  have hb0:Below w.heap.size w (w.alloc (.cells #[] 85)):=by (repeat (first | exact rfl | exact Below.refl _ _ | (with_reducible refine Below.drew ?_) | (with_reducible refine Below.drewN ?_ _) | (with_reducible refine Below.alloc ?_ ?_ _) | (with_reducible refine Below.setCell ?_ ?_ _) | (show _<=_;focus (first | omega | (simp;done) | (simp;omega)))))
  refine (c_sCustomersOk L A c _ ((hA.below hb0).more hb0.size) hn).mono ?_
  rintro e w5 ⟨rfl,hb5⟩
  rw [H.out]
  have hbx:=hb0.trans (hb5.mono hb0.size)
  have own0:=(IOO.empty w (Nat.le_refl _)).below hb5 (Nat.le_refl _)
  go_wp2_with fail
  go_ret
  exact ⟨_,rfl,⟨_,by rw [HV.out];exact own0⟩,hbx⟩
end
section
attribute [local go_sem ↓] Go.wp_at_zero Go.wp_at_succ
theorem busyP_len (L:List (Int×Int)):(busyP L).length<=200:=by
 unfold busyP;split
 ·exact busyT_len L 200
 ·simp
end
section
theorem Z_set {xs:List Int} {n k:Nat} {v:Int} (h:n < xs.length):Z (xs.set n v) k=if n=k then v else Z xs k:=by
 simp only [Z,List.getD,List.getElem?_set]
 split
 ·rename_i e;subst e;simp
 ·rfl
def needs (L:List (Int×Int)):List Int:=L.map fun c=>c.2
theorem needs_len (L:List (Int×Int)):(needs L).length=L.length:=by simp [needs]
theorem needs_Z {L:List (Int×Int)} {k:Nat} (h:k < L.length):Z (needs L) k=Y L k:=by simp [needs,Z,Y,h]
def pickStep (L:List (Int×Int)) (lf:List Int) (t rule who:Int) (k:Nat):Int :=
 if t < X L k∨Z lf k=0 then who
 else if who < 0 then k
 else if rule=1 then k
 else if rule=2∧Z lf k < Z lf who.toNat then k
 else if rule=3∧Z lf who.toNat < Z lf k then k
 else who
def pickTo (L:List (Int×Int)) (lf:List Int) (t rule:Int):Nat->Int
 | 0=>-1
 | k+1=>pickStep L lf t rule (pickTo L lf t rule k) k
def pick (L:List (Int×Int)) (lf:List Int) (t rule:Int):Int:=pickTo L lf t rule L.length
theorem pickTo_ok (L:List (Int×Int)) (lf:List Int) (t rule:Int):∀ j,
  (pickTo L lf t rule j=-1∧∀ k,k < j->t < X L k∨Z lf k=0)∨(∃ p:Nat,pickTo L lf t rule j=p∧p < j∧X L p<=t∧Z lf p≠0):=by
 intro j
 induction j with
 | zero=>exact .inl ⟨rfl,fun k h=>by omega⟩
 | succ j ih =>
  simp only [pickTo,pickStep]
  by_cases h1:t < X L j∨Z lf j=0
  ·rw [if_pos h1]
   rcases ih with ⟨e,hk⟩ | ⟨p,e,hp,h2,h3⟩
   ·refine .inl ⟨e,fun k hk'=>?_⟩
    by_cases e2:k=j
    ·subst e2;exact h1
    ·exact hk k (by omega)
   ·exact .inr ⟨p,e,by omega,h2,h3⟩
  ·rw [if_neg h1]
   have hj:∃ p:Nat,((j:Int)=(p:Int))∧p < j+1∧X L p<=t∧Z lf p≠0:=⟨j,rfl,by omega,by omega,fun e=>h1 (.inr e)⟩
   split
   ·exact .inr hj
   ·rename_i hw
    rcases ih with ⟨e,_⟩ | ⟨p,e,hp,h2,h3⟩
    ·omega
    ·split
     ·exact .inr hj
     ·split
      ·exact .inr hj
      ·split
       ·exact .inr hj
       ·exact .inr ⟨p,e,by omega,h2,h3⟩
def stepL (lf:List Int) (who:Int):List Int:=if 0<=who then lf.set who.toNat (Z lf who.toNat - 1) else lf
theorem stepL_len (lf:List Int) (who:Int):(stepL lf who).length=lf.length:=by unfold stepL;split <;> simp
def ordL (L:List (Int×Int)) (rule:Int):Nat->List Int
 | 0=>needs L
 | t+1=>stepL (ordL L rule t) (pick L (ordL L rule t) t rule)
def ordW (L:List (Int×Int)) (rule:Int) (t:Nat):Int:=pick L (ordL L rule t) t rule
def orderTo (L:List (Int×Int)) (rule:Int) (n:Nat):List Int:=(List.range n).map (ordW L rule)
def thereTo (L:List (Int×Int)) (lf:List Int) (t:Int):Nat->Int
 | 0=>0
 | j+1=>thereTo L lf t j+(if X L j<=t then Z lf j else 0)
theorem thereTo_set {L:List (Int×Int)} {lf:List Int} {t v:Int} {p:Nat} (h:p < lf.length):∀ j,thereTo L (lf.set p v) t j=thereTo L lf t j+(if p < j∧X L p<=t then v - Z lf p else 0):=by
 intro j
 induction j with
 | zero=>simp [thereTo]
 | succ j ih =>
  simp only [thereTo,ih,Z_set h]
  by_cases e:p=j
  ·subst e
   by_cases hx:X L p<=t
   ·rw [if_neg (by omega),if_pos hx,if_pos rfl,if_pos hx,if_pos (by omega)];omega
   ·rw [if_neg (by omega),if_neg hx,if_neg hx,if_neg (by omega)]
  ·rw [if_neg e]
   by_cases hp:p < j∧X L p<=t
   ·rw [if_pos hp,if_pos (show p < j+1∧X L p<=t by omega)];omega
   ·rw [if_neg hp,if_neg (show ¬ (p < j+1∧X L p<=t) by omega)];omega
structure OI (L:List (Int×Int)) (t:Nat) (lf:List Int):Prop where
 len:lf.length=L.length
 rng:∀ k,k < L.length->0<=Z lf k∧Z lf k<=Y L k
 late:∀ k,k < L.length->(t:Int)<=X L k->Z lf k=Y L k
 sum:thereTo L lf t L.length=wk L t
theorem thereTo_none {L:List (Int×Int)} {lf:List Int} {t:Int}:∀ j,(∀ k,k < j->t < X L k∨Z lf k=0)->thereTo L lf t j=0:=by
 intro j
 induction j with
 | zero=>intro _;rfl
 | succ j ih =>
  intro h
  have h1:=h j (by omega)
  simp only [thereTo,ih (fun k hk=>h k (by omega))]
  split
  ·omega
  ·omega
theorem thereTo_nn {L:List (Int×Int)} {lf:List Int} {t:Int}:∀ j,(∀ k,k < j->0<=Z lf k)->0<=thereTo L lf t j:=by
 intro j
 induction j with
 | zero=>intro _;exact Int.le_refl _
 | succ j ih =>
  intro h
  have h1:=h j (by omega)
  have:=ih (fun k hk=>h k (by omega))
  simp only [thereTo]
  split <;> omega
theorem thereTo_pos {L:List (Int×Int)} {lf:List Int} {t:Int} {p:Nat} (hx:X L p<=t) (hz:0 < Z lf p):∀ j,p < j->(∀ k,k < j->0<=Z lf k)->0 < thereTo L lf t j:=by
 intro j
 induction j with
 | zero=>intro h;omega
 | succ j ih =>
  intro hp h
  have h1:=h j (by omega)
  simp only [thereTo]
  by_cases e:p=j
  ·subst e
   have:=thereTo_nn (L:=L) (lf:=lf) (t:=t) p (fun k hk=>h k (by omega))
   rw [if_pos hx];omega
  ·have:=ih (by omega) (fun k hk=>h k (by omega))
   split <;> omega
theorem thereTo_next {L:List (Int×Int)} {lf:List Int} {t:Nat} (h:∀ k,k < L.length->(t:Int)+1<=X L k->Z lf k=Y L k):∀ j,j<=L.length->thereTo L lf ((t:Int)+1) j=thereTo L lf t j+arrTo L ((t:Int)+1) j:=by
 intro j
 induction j with
 | zero=>intro _;simp [thereTo,arrTo]
 | succ j ih =>
  intro hj
  have i:=ih (by omega)
  simp only [thereTo,arrTo,i]
  by_cases e1:X L j<=t
  ·rw [if_pos (by omega),if_pos e1,if_neg (by omega)];omega
  ·by_cases e2:X L j=(t:Int)+1
   ·have:=h j (by omega) (by omega)
    rw [if_pos (by omega),if_neg e1,if_pos e2];omega
   ·rw [if_neg (by omega),if_neg e1,if_neg e2];omega
theorem OI.picks {L:List (Int×Int)} {t:Nat} {lf:List Int} (h:OI L t lf) (rule:Int) :
  (pick L lf t rule=-1∧wk L t=0)∨(∃ p:Nat,pick L lf t rule=p∧p < L.length∧X L p<=t∧0 < Z lf p∧wk L t≠0):=by
 rcases pickTo_ok L lf t rule L.length with ⟨e,hk⟩ | ⟨p,e,hp,h2,h3⟩
 ·exact .inl ⟨e,by rw [<- h.sum];exact thereTo_none _ hk⟩
 ·have r:=h.rng p hp
  have:=thereTo_pos (lf:=lf) h2 (by omega) L.length hp (fun k hk=>(h.rng k hk).1)
  refine .inr ⟨p,e,hp,h2,by omega,?_⟩
  rw [<- h.sum];omega
theorem OI.next {L:List (Int×Int)} (hc:cOk L=true) {t:Nat} {lf:List Int} (h:OI L t lf) (rule:Int):OI L (t+1) (stepL lf (pick L lf t rule)):=by
 have hw:wk L (t+1)=max (wk L t - 1) 0+arr L ((t:Int)+1):=rfl
 have hwn:=wk_nn hc t
 rcases h.picks rule with ⟨e,h0⟩ | ⟨p,e,hp,hx,hz,hne⟩
 ·rw [e]
  have es:stepL lf (-1)=lf:=by simp [stepL]
  rw [es]
  have late:∀ k,k < L.length->(t:Int)+1<=X L k->Z lf k=Y L k:=fun k hk hk2=>h.late k hk (by omega)
  refine ⟨h.len,h.rng,fun k hk hk2=>late k hk (by omega),?_⟩
  rw [show ((t+1:Nat):Int)=(t:Int)+1 by omega,thereTo_next late _ (Nat.le_refl _),h.sum,hw,h0]
  unfold arr;omega
 ·rw [e]
  have es:stepL lf (p:Int)=lf.set p (Z lf p - 1):=by simp [stepL]
  rw [es]
  have hl:p < lf.length:=by rw [h.len];exact hp
  have late:∀ k,k < L.length->(t:Int)+1<=X L k->Z (lf.set p (Z lf p - 1)) k=Y L k:=fun k hk hk2=>by
   rw [Z_set hl,if_neg (by intro e2;subst e2;omega)]
   exact h.late k hk (by omega)
  refine ⟨by rw [List.length_set];exact h.len,fun k hk=>?_,fun k hk hk2=>late k hk (by omega),?_⟩
  ·rw [Z_set hl]
   have r:=h.rng k hk
   split
   ·rename_i e2;subst e2;omega
   ·exact r
  ·rw [show ((t+1:Nat):Int)=(t:Int)+1 by omega,thereTo_next late _ (Nat.le_refl _),thereTo_set hl,if_pos ⟨hp,hx⟩,h.sum,hw]
   unfold arr;omega
theorem thereTo_first {L:List (Int×Int)} (hc:cOk L=true):∀ j,j<=L.length->thereTo L (needs L) 0 j=arrTo L 0 j:=by
 intro j
 induction j with
 | zero=>intro _;rfl
 | succ j ih =>
  intro hj
  have bd:=cOk_bd hc (k:=j) (by omega)
  simp only [thereTo,arrTo,ih (by omega),needs_Z (L:=L) (k:=j) (by omega)]
  by_cases e:X L j=0
  ·rw [if_pos (by omega),if_pos e]
  ·rw [if_neg (by omega),if_neg e]
theorem ordL_inv {L:List (Int×Int)} (hc:cOk L=true) (rule:Int):∀ t,OI L t (ordL L rule t):=by
 intro t
 induction t with
 | zero =>
  refine ⟨needs_len L,fun k hk=>?_,fun k hk _=>needs_Z hk,?_⟩
  ·have bd:=cOk_bd hc hk
   show 0<=Z (needs L) k∧Z (needs L) k<=Y L k
   rw [needs_Z hk];omega
  ·exact thereTo_first hc _ (Nat.le_refl _)
 | succ t ih=>exact ih.next hc rule
theorem ordL_end {L:List (Int×Int)} (hc:cOk L=true) (rule:Int) {T:Nat} (hT:lastLeave L<=T) {k:Nat} (hk:k < L.length):Z (ordL L rule T) k=0:=by
 have inv:=ordL_inv hc rule T
 have h0:=wk_end hc hT
 have r:=inv.rng k hk
 have hx:X L k<=T:=by
  have f:=fwd_mono hc (i:=k+1) (j:=L.length) (by omega) (Nat.le_refl _)
  have bd:=cOk_bd hc hk
  rw [lastLeave_fwd hc] at hT
  simp only [fwd] at f
  omega
 refine Classical.byContradiction fun hne=>?_
 have:=thereTo_pos (lf:=ordL L rule T) hx (by omega) L.length hk (fun j hj=>(inv.rng j hj).1)
 rw [inv.sum] at this
 omega
theorem orderTo_len (L:List (Int×Int)) (rule:Int) (n:Nat):(orderTo L rule n).length=n:=by simp [orderTo]
theorem orderTo_succ (L:List (Int×Int)) (rule:Int) (n:Nat):orderTo L rule (n+1)=orderTo L rule n++[ordW L rule n]:=by simp [orderTo,List.range_succ]
theorem orderTo_Z {L:List (Int×Int)} {rule:Int} {n k:Nat} (h:k < n):Z (orderTo L rule n) k=ordW L rule k:=by simp [Z,orderTo,h]
end
section
def leftOf (L:List (Int×Int)) (o:List Int):Nat->List Int
 | 0=>needs L
 | t+1=>stepL (leftOf L o t) (Z o t)
def unitOk (L:List (Int×Int)) (o:List Int) (t:Nat):Bool :=
 decide (-1<=Z o t∧Z o t<=(L.length:Int) - 1) && (decide (Z o t < 0) || (decide (X L (Z o t).toNat<=t) && decide (Z (leftOf L o t) (Z o t).toNat≠0)))
def unitsOk (L:List (Int×Int)) (o:List Int):Nat->Bool
 | 0=>true
 | t+1=>unitsOk L o t && unitOk L o t
def noneLeft (lf:List Int):Nat->Bool
 | 0=>true
 | k+1=>noneLeft lf k && decide (Z lf k<=0)
def ordOk (L:List (Int×Int)) (o:List Int):Bool:=cOk L && decide (o.length<=200) && unitsOk L o o.length && noneLeft (leftOf L o o.length) L.length
theorem leftOf_len (L:List (Int×Int)) (o:List Int):∀ t,(leftOf L o t).length=L.length:=by
 intro t
 induction t with
 | zero=>exact needs_len L
 | succ t ih=>simp only [leftOf,stepL_len,ih]
theorem unitsOk_at {L:List (Int×Int)} {o:List Int}:∀ n,unitsOk L o n=true->∀ t,t < n->unitOk L o t=true:=by
 intro n
 induction n with
 | zero=>intro _ t ht;omega
 | succ n ih =>
  intro h t ht
  simp only [unitsOk,Bool.and_eq_true] at h
  by_cases e:t=n
  ·subst e;exact h.2
  ·exact ih h.1 t (by omega)
theorem unitsOk_of {L:List (Int×Int)} {o:List Int}:∀ n,(∀ t,t < n->unitOk L o t=true)->unitsOk L o n=true:=by
 intro n
 induction n with
 | zero=>intro _;rfl
 | succ n ih=>intro h;simp only [unitsOk,Bool.and_eq_true];exact ⟨ih fun t ht=>h t (by omega),h n (by omega)⟩
theorem noneLeft_at {lf:List Int}:∀ n,noneLeft lf n=true->∀ k,k < n->Z lf k<=0:=by
 intro n
 induction n with
 | zero=>intro _ k hk;omega
 | succ n ih =>
  intro h k hk
  simp only [noneLeft,Bool.and_eq_true,decide_eq_true_eq] at h
  by_cases e:k=n
  ·subst e;exact h.2
  ·exact ih h.1 k (by omega)
theorem noneLeft_of {lf:List Int}:∀ n,(∀ k,k < n->Z lf k<=0)->noneLeft lf n=true:=by
 intro n
 induction n with
 | zero=>intro _;rfl
 | succ n ih=>intro h;simp only [noneLeft,Bool.and_eq_true,decide_eq_true_eq];exact ⟨ih fun k hk=>h k (by omega),h n (by omega)⟩
theorem unitOk_cases {L:List (Int×Int)} {o:List Int} {t:Nat} (h:unitOk L o t=true) :
  Z o t=-1∨(∃ p:Nat,Z o t=p∧p < L.length∧X L p<=t∧Z (leftOf L o t) p≠0):=by
 simp only [unitOk,Bool.and_eq_true,Bool.or_eq_true,decide_eq_true_eq] at h
 obtain ⟨⟨h1,h2⟩,h3⟩:=h
 by_cases e:Z o t < 0
 ·left;omega
 ·right
  rcases h3 with h3 | ⟨h3,h4⟩
  ·omega
  ·exact ⟨(Z o t).toNat,by omega,by omega,h3,h4⟩
theorem unitOk_of {L:List (Int×Int)} {o:List Int} {t:Nat} (h:Z o t=-1∨(∃ p:Nat,Z o t=p∧p < L.length∧X L p<=t∧Z (leftOf L o t) p≠0)):unitOk L o t=true:=by
 simp only [unitOk,Bool.and_eq_true,Bool.or_eq_true,decide_eq_true_eq]
 rcases h with e | ⟨p,e,h1,h2,h3⟩
 ·rw [e];exact ⟨⟨by omega,by omega⟩,.inl (by omega)⟩
 ·rw [e]
  have:((p:Int)).toNat=p:=by simp
  rw [this]
  exact ⟨⟨by omega,by omega⟩,.inr ⟨h2,h3⟩⟩
theorem leftOf_orderTo (L:List (Int×Int)) (rule:Int) (n:Nat):∀ t,t<=n->leftOf L (orderTo L rule n) t=ordL L rule t:=by
 intro t
 induction t with
 | zero=>intro _;rfl
 | succ t ih=>intro h;simp only [leftOf,ordL,ih (by omega),orderTo_Z (L:=L) (rule:=rule) (n:=n) (k:=t) (by omega)];rfl
theorem lastLeave_nat {L:List (Int×Int)} (hc:cOk L=true):∃ T:Nat,lastLeave L=T∧T<=132:=by
 have:=lastLeave_bd hc
 exact ⟨(lastLeave L).toNat,by omega,by omega⟩
theorem orderTo_ok {L:List (Int×Int)} (hc:cOk L=true) (rule:Int) {T:Nat} (hT:lastLeave L=T):ordOk L (orderTo L rule T)=true:=by
 have hb:=lastLeave_bd hc
 simp only [ordOk,Bool.and_eq_true,decide_eq_true_eq,orderTo_len]
 refine ⟨⟨⟨hc,by omega⟩,unitsOk_of _ fun t ht=>unitOk_of ?_⟩,noneLeft_of _ fun k hk=>?_⟩
 ·rw [orderTo_Z ht,leftOf_orderTo L rule T t (by omega)]
  rcases (ordL_inv hc rule t).picks rule with ⟨e,_⟩ | ⟨p,e,hp,hx,hz,_⟩
  ·exact .inl e
  ·exact .inr ⟨p,e,hp,hx,by omega⟩
 ·rw [leftOf_orderTo L rule T T (Nat.le_refl _),ordL_end hc rule (by omega) hk]
  exact Int.le_refl _
structure LI (L:List (Int×Int)) (t:Nat) (lf:List Int):Prop where
 len:lf.length=L.length
 rng:∀ k,k < L.length->0<=Z lf k∧Z lf k<=Y L k
 late:∀ k,k < L.length->(t:Int)<=X L k->Z lf k=Y L k
 sum:wk L t<=thereTo L lf t L.length
theorem leftOf_inv {L:List (Int×Int)} (hc:cOk L=true) {o:List Int} {n:Nat} (ho:unitsOk L o n=true):∀ t,t<=n->LI L t (leftOf L o t):=by
 intro t
 induction t with
 | zero =>
  intro _
  refine ⟨needs_len L,fun k hk=>?_,fun k hk _=>needs_Z hk,?_⟩
  ·have bd:=cOk_bd hc hk
   show 0<=Z (needs L) k∧Z (needs L) k<=Y L k
   rw [needs_Z hk];omega
  ·show wk L 0<=thereTo L (needs L) ((0:Nat):Int) L.length
   rw [show ((0:Nat):Int)=0 by rfl,thereTo_first hc _ (Nat.le_refl _)]
   exact Int.le_refl _
 | succ t ih =>
  intro ht
  have h:=ih (by omega)
  have hu:=unitsOk_at n ho t (by omega)
  have hw:wk L (t+1)=max (wk L t - 1) 0+arr L ((t:Int)+1):=rfl
  have hwn:=wk_nn hc t
  have hnn:=thereTo_nn (L:=L) (lf:=leftOf L o t) (t:=t) L.length (fun k hk=>(h.rng k hk).1)
  have hs:=h.sum
  show LI L (t+1) (stepL (leftOf L o t) (Z o t))
  rcases unitOk_cases hu with e | ⟨p,e,hp,hx,hz⟩
  ·rw [e]
   have es:stepL (leftOf L o t) (-1)=leftOf L o t:=by simp [stepL]
   rw [es]
   have late:∀ k,k < L.length->(t:Int)+1<=X L k->Z (leftOf L o t) k=Y L k:=fun k hk hk2=>h.late k hk (by omega)
   refine ⟨h.len,h.rng,fun k hk hk2=>late k hk (by omega),?_⟩
   rw [show ((t+1:Nat):Int)=(t:Int)+1 by omega,thereTo_next late _ (Nat.le_refl _),hw]
   unfold arr;omega
  ·rw [e]
   have es:stepL (leftOf L o t) (p:Int)=(leftOf L o t).set p (Z (leftOf L o t) p - 1):=by simp [stepL]
   rw [es]
   have hl:p < (leftOf L o t).length:=by rw [h.len];exact hp
   have rp:=h.rng p hp
   have hpos:=thereTo_pos (lf:=leftOf L o t) hx (by omega) L.length hp (fun k hk=>(h.rng k hk).1)
   have late:∀ k,k < L.length->(t:Int)+1<=X L k->Z ((leftOf L o t).set p (Z (leftOf L o t) p - 1)) k=Y L k:=fun k hk hk2=>by
    rw [Z_set hl,if_neg (by intro e2;subst e2;omega)]
    exact h.late k hk (by omega)
   refine ⟨by rw [List.length_set];exact h.len,fun k hk=>?_,fun k hk hk2=>late k hk (by omega),?_⟩
   ·rw [Z_set hl]
    have r:=h.rng k hk
    split
    ·rename_i e2;subst e2;omega
    ·exact r
   ·rw [show ((t+1:Nat):Int)=(t:Int)+1 by omega,thereTo_next late _ (Nat.le_refl _),thereTo_set hl,if_pos ⟨hp,hx⟩,hw]
    unfold arr;omega
theorem done_late {L:List (Int×Int)} (hc:cOk L=true) {o:List Int} {n:Nat} (ho:unitsOk L o n=true) (hn:∀ k,k < L.length->Z (leftOf L o n) k<=0):lastLeave L<=n:=by
 have inv:=leftOf_inv hc ho n (Nat.le_refl _)
 have hz:∀ k,k < L.length->Z (leftOf L o n) k=0:=fun k hk=>by have:=inv.rng k hk;have:=hn k hk;omega
 have hw:wk L n=0:=by
  have h0:=thereTo_none (L:=L) (lf:=leftOf L o n) (t:=n) L.length (fun k hk=>.inr (hz k hk))
  have:=inv.sum
  have:=wk_nn hc n
  omega
 have hall:cnt L n=L.length:=by
  refine cnt_of (Nat.le_refl _) (fun k hk=>?_) (fun h=>absurd h (Nat.lt_irrefl _))
  refine Int.le_of_not_gt fun hgt=>?_
  have:=inv.late k hk (by omega)
  have:=hz k hk
  have:=cOk_bd hc hk
  omega
 rw [wk_fwd hc,hall] at hw
 rw [lastLeave_fwd hc]
 omega
theorem ordOk_parts {L:List (Int×Int)} {o:List Int} (h:ordOk L o=true):cOk L=true∧o.length<=200∧unitsOk L o o.length=true∧noneLeft (leftOf L o o.length) L.length=true:=by
 simp only [ordOk,Bool.and_eq_true,decide_eq_true_eq] at h
 exact ⟨h.1.1.1,h.1.1.2,h.1.2,h.2⟩
end
section
def endTo (o:List Int) (k:Nat):Nat->Int
 | 0=>0
 | t+1=>if Z o t=k then (t:Int)+1 else endTo o k t
def endsL (L:List (Int×Int)) (o:List Int) (n:Nat):List Int:=(List.range n).map fun k=>endTo o k o.length
def ends (L:List (Int×Int)) (o:List Int):List Int:=if ordOk L o=true then endsL L o L.length else []
theorem endsL_len (L:List (Int×Int)) (o:List Int) (n:Nat):(endsL L o n).length=n:=by simp [endsL]
theorem endsL_succ (L:List (Int×Int)) (o:List Int) (n:Nat):endsL L o (n+1)=endsL L o n++[endTo o n o.length]:=by simp [endsL,List.range_succ]
theorem endsL_Z {L:List (Int×Int)} {o:List Int} {n k:Nat} (h:k < n):Z (endsL L o n) k=endTo o k o.length:=by simp [Z,endsL,h]
theorem ends_yes {L:List (Int×Int)} {o:List Int} (h:ordOk L o=true):ends L o=endsL L o L.length:=if_pos h
theorem ends_no {L:List (Int×Int)} {o:List Int} (h:ordOk L o=false):ends L o=[]:=by simp [ends,h]
theorem endTo_le (o:List Int) (k:Nat):∀ t,0<=endTo o k t∧endTo o k t<=t:=by
 intro t
 induction t with
 | zero=>simp [endTo]
 | succ t ih=>simp only [endTo];split <;> omega
theorem stepL_other {lf:List Int} {who:Int} {k:Nat} (h:who≠k) (hw:who < lf.length):Z (stepL lf who) k=Z lf k:=by
 unfold stepL
 split
 ·rw [Z_set (by omega),if_neg (by omega)]
 ·rfl
theorem unit_range {L:List (Int×Int)} {o:List Int} {n t:Nat} (ho:unitsOk L o n=true) (ht:t < n):Z o t < L.length:=by
 rcases unitOk_cases (unitsOk_at n ho t ht) with e | ⟨p,e,hp,_⟩
 ·omega
 ·omega
theorem leftOf_same {L:List (Int×Int)} {o:List Int} {n:Nat} (ho:unitsOk L o n=true) {k a:Nat}:∀ t,a<=t->t<=n->(∀ u,a<=u->u < t->Z o u≠k)->Z (leftOf L o t) k=Z (leftOf L o a) k:=by
 intro t
 induction t with
 | zero=>intro h1 _ _;rw [show a=0 by omega]
 | succ t ih =>
  intro h1 h2 h3
  by_cases e:a=t+1
  ·rw [e]
  ·have i:=ih (by omega) (by omega) (fun u h4 h5=>h3 u h4 (by omega))
   rw [<- i]
   exact stepL_other (h3 t (by omega) (by omega)) (by rw [leftOf_len];exact unit_range ho (by omega))
theorem served_end {L:List (Int×Int)} (hc:cOk L=true) {o:List Int} {n:Nat} (ho:unitsOk L o n=true) {k:Nat} (hk:k < L.length):∀ t,t<=n->Y L k - Z (leftOf L o t) k<=max 0 (endTo o k t - X L k):=by
 intro t
 induction t with
 | zero =>
  intro _
  show Y L k - Z (needs L) k<=_
  rw [needs_Z hk];omega
 | succ t ih =>
  intro ht
  have i:=ih (by omega)
  have el:=endTo_le o k t
  by_cases e:Z o t=k
  ·rcases unitOk_cases (unitsOk_at n ho t (by omega)) with e2 | ⟨p,e2,hp,hx,_⟩
   ·omega
   ·obtain rfl:p=k:=by omega
    have es:leftOf L o (t+1)=(leftOf L o t).set p (Z (leftOf L o t) p - 1):=by simp only [leftOf,e2];simp [stepL]
    rw [es,Z_set (by rw [leftOf_len];exact hp),if_pos rfl]
    simp only [endTo]
    rw [if_pos e]
    omega
  ·have s:=leftOf_same ho (k:=k) (a:=t) (t+1) (by omega) ht (fun u h1 h2=>by rw [show u=t by omega];exact e)
   rw [s]
   simp only [endTo]
   rw [if_neg e]
   exact i
theorem ends_need {L:List (Int×Int)} {o:List Int} (h:ordOk L o=true) {k:Nat} (hk:k < L.length):X L k+Y L k<=endTo o k o.length:=by
 obtain ⟨hc,_,hu,hn⟩:=ordOk_parts h
 have s:=served_end hc hu hk o.length (Nat.le_refl _)
 have z:=noneLeft_at _ hn k hk
 have bd:=cOk_bd hc hk
 omega
theorem unitsOk_le {L:List (Int×Int)} {o:List Int} {n m:Nat} (h:unitsOk L o n=true) (hm:m<=n):unitsOk L o m=true:=unitsOk_of _ fun t ht=>unitsOk_at n h t (by omega)
end
section
end
end Go.Proofs.YthpccmkagikhjaaGreatDoor

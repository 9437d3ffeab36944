import Derived.Test.YthpccmkagikhjaaGreatDoorQExactDeskSay1
import Derived.Test.YthpccmkagikhjaaGreatDoorQExactDeskSay2
import Derived.Test.YthpccmkagikhjaaGreatDoorQExactDeskSay3
import Derived.Test.YthpccmkagikhjaaGreatDoorQExactDeskSay4
import Derived.Test.YthpccmkagikhjaaGreatDoorQExactDeskSay7
import Derived.Test.YthpccmkagikhjaaGreatDoorQExactDeskSay10
import Derived.Lib.SplitLaws
import Derived.Deep.Upon
import Derived.OwnWalk
namespace Go.Proofs.YthpccmkagikhjaaGreatDoor
set_option linter.unusedVariables false
open Go.RowKit
set_option maxRecDepth 8000
set_option maxHeartbeats 4000000
section
theorem splitK_cut (c:UInt8):∀ (m:Nat) (s:List UInt8),s.length<=m->Lib.splitK [c] 0 (Lib.count s [c]) s=cutL c s:=by
 intro m
 induction m with
 | zero =>
  intro s h
  have:s=[]:=List.eq_nil_of_length_eq_zero (by omega)
  subst this
  rw [cutL_none (by simp),Lib.count_miss (by simp [Lib.index])]
  rfl
 | succ m ih =>
  intro s h
  rcases split_at c s with h1 | ⟨a,b,rfl,ha⟩
  ·rw [cutL_none h1,Lib.count_miss (indexC_none h1)];rfl
  ·have hi:=indexC_at b ha
   have e:(a++c::b).drop (a.length+[c].length)=b:=by simp
   have e2:(a++c::b).take (a.length+0)=a:=by simp
   rw [cutL_at b ha,Lib.count_hit (by simp) hi,e,Nat.add_comm,Lib.splitK,if_neg (by rw [hi];simp),hi,Int.toNat_natCast,e,e2,ih b (by simp at h;omega)]
theorem splitB_cut (c:UInt8) (s:ByteArray):(Lib.splitB ⟨#[c]⟩ 0 (Lib.countB s ⟨#[c]⟩) s).map (·.data.toList)=cutL c s.data.toList:=by
 rw [Lib.splitB_data]
 exact splitK_cut c _ _ (Nat.le_refl _)
theorem splitB_len (c:UInt8) (s:ByteArray):Lib.countB s ⟨#[c]⟩+1=(cutL c s.data.toList).length:=by
 rw [<- splitB_cut,List.length_map,Lib.splitB_all _ (by simp [ByteArray.size]) 0 _ s rfl]
def uncut (c:UInt8):List (List UInt8)->List UInt8
 | []=>[]
 | [x]=>x
 | x::y::r=>x++c::uncut c (y::r)
theorem cutL_ne (c:UInt8) (s:List UInt8):cutL c s≠[]:=by simp [cutL]
theorem uncut_cons (c:UInt8) (x:List UInt8) {r:List (List UInt8)} (h:r≠[]):uncut c (x::r)=x++c::uncut c r:=by
 cases r with
 | nil=>exact absurd rfl h
 | cons y r=>rfl
theorem uncut_cut (c:UInt8):∀ (m:Nat) (s:List UInt8),s.length<=m->uncut c (cutL c s)=s:=by
 intro m
 induction m with
 | zero =>
  intro s h
  have:s=[]:=List.eq_nil_of_length_eq_zero (by omega)
  subst this
  rw [cutL_none (by simp)];rfl
 | succ m ih =>
  intro s h
  rcases split_at c s with h1 | ⟨a,b,rfl,ha⟩
  ·rw [cutL_none h1];rfl
  ·rw [cutL_at b ha,uncut_cons c a (cutL_ne c b),ih b (by simp at h;omega)]
def dig2 (l:List UInt8):Bool:=digOk l && decide (l.length<=2)
theorem dig2_num {l:List UInt8} (h:dig2 l=true):numL (valN l)=l∧valN l<=99:=by
 simp only [dig2,Bool.and_eq_true,decide_eq_true_eq] at h
 obtain ⟨h1,h2,h3⟩:=digOk_parts h.1
 have e:=num_of _ l rfl (by intro e;subst e;simp at h1) h3 h2
 refine ⟨e,Nat.le_of_not_lt fun hgt=>?_⟩
 have hl:=h.2
 rw [<- e,numL_more (by omega),numL_more (by omega)] at hl
 have:=numL_ne (valN l / 10 / 10)
 simp at hl
 rw [hl] at this;simp at this
theorem num_dig2 {n:Nat} (h:n<=99):dig2 (numL n)=true:=by
 have h1:=numL_ne n
 have h2:=numL_len 1 n (by simpa using show n < 100 by omega)
 have h4:=numL_lead n
 have:digOk (numL n)=true:=by
  simp only [digOk,Bool.and_eq_true,decide_eq_true_eq,numL_all n,and_true,Bool.not_eq_true',Bool.and_eq_false_iff,decide_eq_false_iff_not]
  refine ⟨by omega,?_⟩
  by_cases h5:1 < (numL n).length
  ·right
   have:=h4 h5
   cases hx:(numL n).head? with
   | none=>rfl
   | some c=>rw [hx] at this;simpa using this
  ·exact .inl h5
 simp [dig2,this];omega
def wordJ:Nat->List UInt8
 | 0=>wCome
 | 1=>wGo
 | 2=>wNeed
 | 3=>wLater
 | _=>wBack
def numJ:Nat->Nat
 | 0=>2
 | 1=>0
 | 2=>1
 | 3=>1
 | _=>0
def deedJ (j:Nat) (r:List (List UInt8)):DV:=⟨j,(valN (r.getD 0 []):Int),(valN (r.getD 1 []):Int)⟩
theorem wordJ_inj {i j:Nat} (hi:i < 5) (hj:j < 5) (h:wordJ i=wordJ j):i=j:=by
 have hi':i=0∨i=1∨i=2∨i=3∨i=4:=by omega
 have hj':j=0∨j=1∨j=2∨j=3∨j=4:=by omega
 rcases hi' with rfl | rfl | rfl | rfl | rfl <;> rcases hj' with rfl | rfl | rfl | rfl | rfl <;> first | rfl | (exact absurd h (by decide))
theorem deed_cut {d:DV} (h:deedL d≠[]):∃ j r,j < 5∧cutL 32 (deedL d)=wordJ j::r∧r.length=numJ j∧r.all dig2=true∧d=deedJ j r:=by
 rcases deed_ways d with h0 | ⟨h1,h2,h3,e⟩ | ⟨h1,h2,h3,e⟩ | ⟨h1,h2,h3,e⟩ | ⟨h1,e⟩ | ⟨h1,e⟩
 ·exact absurd h0 h
 ·refine ⟨0,[numL d.a.toNat,numL d.b.toNat],by omega,by rw [e,cut_three _ _ _ (by decide) (numL_no32 _) (numL_no32 _)];rfl,rfl,?_,?_⟩
  ·simp [num_dig2 (show d.a.toNat<=99 by omega),num_dig2 (show d.b.toNat<=99 by omega)]
  ·obtain ⟨k,a,b⟩:=d
   simp only at h1 h2 h3
   simp [deedJ,numL_val];omega
 ·refine ⟨2,[numL d.a.toNat],by omega,by rw [e,cut_two _ _ (by decide) (numL_no32 _)];rfl,rfl,?_,?_⟩
  ·simp [num_dig2 (show d.a.toNat<=99 by omega)]
  ·obtain ⟨k,a,b⟩:=d
   simp only at h1 h2 h3
   have e0:(valN ([numL a.toNat].getD 1 []):Int)=0:=rfl
   have e1:(valN ([numL a.toNat].getD 0 []):Int)=a:=by rw [List.getD_cons_zero,numL_val];omega
   simp only [deedJ,e0,e1,DV.mk.injEq];exact ⟨h1,trivial,h3⟩
 ·refine ⟨3,[numL d.a.toNat],by omega,by rw [e,cut_two _ _ (by decide) (numL_no32 _)];rfl,rfl,?_,?_⟩
  ·simp [num_dig2 (show d.a.toNat<=99 by omega)]
  ·obtain ⟨k,a,b⟩:=d
   simp only at h1 h2 h3
   have e0:(valN ([numL a.toNat].getD 1 []):Int)=0:=rfl
   have e1:(valN ([numL a.toNat].getD 0 []):Int)=a:=by rw [List.getD_cons_zero,numL_val];omega
   simp only [deedJ,e0,e1,DV.mk.injEq];exact ⟨h1,trivial,h3⟩
 ·exact ⟨1,[],by omega,by rw [e,cutL_none (by decide)];rfl,rfl,rfl,by rw [h1];rfl⟩
 ·exact ⟨4,[],by omega,by rw [e,cutL_none (by decide)];rfl,rfl,rfl,by rw [h1];rfl⟩
theorem deed_of {s:List UInt8} {j:Nat} {r:List (List UInt8)} (hj:j < 5) (hc:cutL 32 s=wordJ j::r) (hl:r.length=numJ j) (hd:r.all dig2=true):deedL (deedJ j r)=s∧s≠[]:=by
 have hs:=uncut_cut 32 _ s (Nat.le_refl _)
 rw [hc] at hs
 have hj':j=0∨j=1∨j=2∨j=3∨j=4:=by omega
 rcases hj' with rfl | rfl | rfl | rfl | rfl
 ·obtain ⟨x,y,rfl⟩:∃ x y,r=[x,y]:=by
   match r,hl with
   | [x,y],_=>exact ⟨x,y,rfl⟩
  simp only [List.all_cons,List.all_nil,Bool.and_eq_true,and_true] at hd
  obtain ⟨e1,l1⟩:=dig2_num hd.1
  obtain ⟨e2,l2⟩:=dig2_num hd.2
  rw [<- hs]
  refine ⟨?_,by simp [uncut,wordJ,wCome]⟩
  simp only [deedJ,deedL,List.getD_cons_zero,List.getD_cons_succ]
  rw [if_pos ⟨rfl,by omega,by omega⟩,Int.toNat_natCast,Int.toNat_natCast,e1,e2]
  simp [uncut,wordJ]
 ·obtain rfl:r=[]:=List.eq_nil_of_length_eq_zero hl
  rw [<- hs]
  exact ⟨by decide,by decide⟩
 ·obtain ⟨x,rfl⟩:∃ x,r=[x]:=by
   match r,hl with
   | [x],_=>exact ⟨x,rfl⟩
  simp only [List.all_cons,List.all_nil,Bool.and_true] at hd
  obtain ⟨e1,l1⟩:=dig2_num hd
  rw [<- hs]
  refine ⟨?_,by simp [uncut,wordJ,wNeed]⟩
  have e0:(valN ([x].getD 1 []):Int)=0:=rfl
  simp only [deedJ,e0,List.getD_cons_zero]
  rw [deedL,if_neg (by simp),if_pos ⟨rfl,by simp only;omega,rfl⟩,Int.toNat_natCast,e1]
  simp [uncut,wordJ]
 ·obtain ⟨x,rfl⟩:∃ x,r=[x]:=by
   match r,hl with
   | [x],_=>exact ⟨x,rfl⟩
  simp only [List.all_cons,List.all_nil,Bool.and_true] at hd
  obtain ⟨e1,l1⟩:=dig2_num hd
  rw [<- hs]
  refine ⟨?_,by simp [uncut,wordJ,wLater]⟩
  have e0:(valN ([x].getD 1 []):Int)=0:=rfl
  simp only [deedJ,e0,List.getD_cons_zero]
  rw [deedL,if_neg (by simp),if_neg (by simp),if_pos ⟨rfl,by simp only;omega,rfl⟩,Int.toNat_natCast,e1]
  simp [uncut,wordJ]
 ·obtain rfl:r=[]:=List.eq_nil_of_length_eq_zero hl
  rw [<- hs]
  exact ⟨by decide,by decide⟩
theorem read_yes {s:List UInt8} {j:Nat} {r:List (List UInt8)} (hj:j < 5) (hc:cutL 32 s=wordJ j::r) (hl:r.length=numJ j) (hd:r.all dig2=true):readD s=some (deedJ j r):=by
 obtain ⟨e,hne⟩:=deed_of hj hc hl hd
 have:=deed_read (deedJ j r) (by rw [e];exact hne)
 rwa [e] at this
theorem read_bad {s:List UInt8} {j:Nat} {r:List (List UInt8)} (hj:j < 5) (hc:cutL 32 s=wordJ j::r) (hn:¬ (r.length=numJ j∧r.all dig2=true)):readD s=none:=by
 cases h:readD s with
 | none=>rfl
 | some d =>
  obtain ⟨e,hne⟩:=read_text h
  subst e
  obtain ⟨i,r',hi,hc',hl',hd',-⟩:=deed_cut hne
  rw [hc] at hc'
  injection hc' with e1 e2
  have:=wordJ_inj hj hi e1
  subst this e2
  exact absurd ⟨hl',hd'⟩ hn
theorem read_none {s x:List UInt8} {r:List (List UInt8)} (hc:cutL 32 s=x::r) (hn:∀ j,j < 5->x≠wordJ j):readD s=none:=by
 cases h:readD s with
 | none=>rfl
 | some d =>
  obtain ⟨e,hne⟩:=read_text h
  subst e
  obtain ⟨i,r',hi,hc',-,-,-⟩:=deed_cut hne
  rw [hc] at hc'
  injection hc' with e1 e2
  exact absurd e1 (hn i hi)
theorem cut_cons (c:UInt8) (s:List UInt8):∃ x r,cutL c s=x::r:=by
 cases h:cutL c s with
 | nil=>exact absurd h (cutL_ne c s)
 | cons x r=>exact ⟨x,r,rfl⟩
theorem cut_len {c:UInt8} {s:List UInt8}:∀ x ∈ cutL c s,x.length<=s.length:=by
 have key:∀ (ws:List (List UInt8)) (x:List UInt8),x ∈ ws->x.length<=(uncut c ws).length:=by
  intro ws
  induction ws with
  | nil=>intro x h;cases h
  | cons y r ih =>
   intro x h
   cases r with
   | nil=>rcases List.mem_cons.1 h with rfl | h
          ·exact Nat.le_refl _
          ·cases h
   | cons z r =>
    rw [uncut_cons c y (by simp),List.length_append,List.length_cons]
    rcases List.mem_cons.1 h with rfl | h
    ·omega
    ·have:=ih x h;omega
 intro x h
 have:=key _ x h
 rwa [uncut_cut c _ s (Nat.le_refl _)] at this
end
section
theorem intsI_news {w:World} {b off:Nat} {L:List Int} (h:∀ k,k < L.length->w.cell? ⟨b,off+k,none⟩=some (.int .i64 (Z L k))):∀ j u,(L.map (Value.int .i64))[j]?=some u->w.cell? ((⟨b,off,none⟩:Addr).add j)=some u:=by
 intro j u hj
 have hjl:j < L.length:=by have:=(List.getElem?_eq_some_iff.1 hj).1;simpa using this
 have e:(⟨b,off,none⟩:Addr).add j=⟨b,off+j,none⟩:=by by_cases e:j=0 <;> simp [Addr.add,e]
 rw [e,h j hjl,<- hj]
 simp [Z,hjl]
theorem intsI_one (L:List Int):∀ u ∈ L.map (Value.int .i64),u.oneCell'=true:=by
 intro u hu
 obtain ⟨c,_,rfl⟩:=List.mem_map.1 hu
 rfl
theorem Is.one (w:World) (x:Int):Is (w.alloc (.cells #[.int .i64 x] 3)) (w.heap.size+1) (some ⟨w.heap.size,0,none⟩) [x]:=by
 intro _
 refine ⟨w.heap.size,0,rfl,by omega,fun k hk=>?_⟩
 obtain rfl:k=0:=by simpa using hk
 have hz:=heap_alloc_new w (.cells #[.int .i64 x] 3)
 simp [cell_of_row _ w.heap.size 0 _ _ _ hz,Z]
section
variable {w:World}
theorem app_II {ops:Array Oper} {rest:List Oper} {o:Oper} {a:Act} {Q:Exit->Act->World->Prop} (hw:Region.wanted o (yielded ops a.tmps)=true) (s x:Operand)
  (ho:o.op=.call { callee:=.builtin .append,args:=#[s,x],argTypes:=#[85,85] })
  (base:Nat) (v:Value) (M L:List Int) (A:Option Addr) (c B:Nat) (hs:a.eval s=v) (hown:IO w base v M) (hx:a.eval x=.slice A L.length c)
  (hI:Is w B A L) (hlen:M.length+L.length<=1000000000000) (hbase:base<=w.heap.size)
  (h:∀ G cap w',IO w' base (.slice G (M.length+L.length) cap) (M++L)->w.grownBy w' v.ownBlock->Below base w w'->wpList Tryz.prog ops Q rest (a.put o.dst (.slice G (M.length+L.length) cap)) w') :
  wpList Tryz.prog ops Q (o::rest) a w:=by
 obtain ⟨i0,hi,hz0,hz1,hz2⟩:=info_parts infoI
 show if Region.wanted o (yielded ops a.tmps) then _ else _
 rw [if_pos hw]
 refine Or.inl ?_
 by_cases hp:0 < L.length
 ·obtain ⟨b,off,rfl,-,hc⟩:=hI hp
  refine wp_append_lies w s x _ ho base 3 i0 _ 1 8 Tryz.underlying85 hi hz0 hz1 hz2 rfl (by decide) v M.length _ hs hown
   ⟨b,off,none⟩ L.length c (L.map (Value.int .i64)) hx (by simp) (intsI_news hc) (intsI_one L) hp (by simp only [maxLen];omega) (by omega) hbase _ rfl ?_
  intro g cap w' h1 h2 _ _
  exact h (some ⟨g,0,none⟩) cap w' (by simpa [IO] using h1) h2 ((Below.refl _ _).grown h2 hbase (owns_base hown))
 ·have h0:L=[]:=List.eq_nil_of_length_eq_zero (by omega)
  subst h0
  obtain ⟨G,g,rfl,hg1,-,-⟩:=hown.form
  have hsrc:Src Tryz.prog i0.size 85 (.slice A 0 c) 0 [] w:=⟨.inl ⟨_,Tryz.underlying85⟩,fun w'=>by simp [Builtin.lenOf],by cases A <;> simp [Builtin.firstCells,loadCells,loadCellsFrom],by cases A <;> simp [Builtin.firstCells,loadCells,loadCellsFrom],by simp,fun u hu=>by cases hu⟩
  have hr:=run_append_nothing (P:=Tryz.prog) w 85 85 o.type 3 i0 Tryz.underlying85 hi G M.length g hg1 (.slice A 0 c) hsrc
  have hx':a.eval x=.slice A 0 c:=hx
  unfold Oper.wp execOp
  simp only [ho,resolve,invoke,builtin,Sem.run_bind,Sem.run_pure,Result.andThen_ok,List.map_toArray,List.map_cons,List.map_nil,hs,hx',hr]
  exact h G g w (by simpa using hown) ⟨rfl,rfl,rfl,Nat.le_refl _,fun _ _ _=>rfl⟩ (Below.refl _ _)
end
section
variable {w:World}
theorem make_I {ops:Array Oper} {rest:List Oper} {o:Oper} {a:Act} {Q:Exit->Act->World->Prop} (hgd:o.guard=none) (s:Operand) (ho:o.op=.makeSlice 85 s s)
  (base:Nat) (n:Nat) (hs:a.eval s=.int .i64 (n:Int)) (hn:n<=1000000) (hbase:base<=w.heap.size)
  (h:∀ w',IO w' base (.slice (some ⟨w.heap.size,0,none⟩) n n) (List.replicate n 0)->w.grownBy w' none->wpList Tryz.prog ops Q rest (a.put o.dst (.slice (some ⟨w.heap.size,0,none⟩) n n)) w') :
  wpList Tryz.prog ops Q (o::rest) a w:=by
 obtain ⟨i0,hi,hz0,hz1,hz2⟩:=info_parts infoI
 refine wpList_make_full w hgd s s _ ho base 3 i0 _ 1 Tryz.underlying85 hi hz0 hz1 .i64 .i64 n n n hs hs rfl rfl (by rw [hz2];omega) (by simp only [maxLen];omega) hbase ?_
 intro w' h1 h2
 refine h w' ?_ h2
 have e:(madeCells (Value.int .i64 0).cells (n * 1)).toList=(List.replicate n (0:Int)).map (Value.int .i64):=by
  rw [List.map_replicate,Nat.mul_one];exact toList_madeCells_one _ _
 unfold IO
 rw [<- e,List.length_replicate]
 exact h1
end
end
section
theorem Ss.take {w:World} {B:Nat} {A:Option Addr} {L:List (List UInt8)} (h:Ss w B A L) (m:Nat):Ss w B A (L.take m):=by
 intro hn
 rw [List.length_take] at hn
 obtain ⟨b,off,rfl,hlt,hc⟩:=h (by omega)
 refine ⟨b,off,rfl,hlt,fun k hk=>?_⟩
 rw [List.length_take] at hk
 have e:ZS (L.take m) k=ZS L k:=by simp [ZS,List.getD_eq_getElem?_getD,List.getElem?_take_of_lt (show k < m by omega)]
 rw [e]
 exact hc k (by omega)
theorem Ss.drop {w:World} {B b off:Nat} {L:List (List UInt8)} (h:Ss w B (some ⟨b,off,none⟩) L) (m:Nat):Ss w B (some ⟨b,off+m,none⟩) (L.drop m):=by
 intro hn
 rw [List.length_drop] at hn
 obtain ⟨b2,off2,e,hlt,hc⟩:=h (by omega)
 injection e with e
 injection e with e1 e2 _
 subst e1 e2
 refine ⟨b,off+m,rfl,hlt,fun k hk=>?_⟩
 rw [List.length_drop] at hk
 have e:ZS (L.drop m) k=ZS L (m+k):=by simp [ZS,List.getD_eq_getElem?_getD]
 rw [e,show off+m+k=off+(m+k) by omega]
 exact hc (m+k) (by omega)
theorem SO.formE {w:World} {base:Nat} {v:Value} {L:List (List UInt8)} (h:SO w base v L):∃ A c,v=.slice A L.length c∧L.length<=c∧((A=none∧c=0)∨∃ g,A=some ⟨g,0,none⟩)∧Ss w w.heap.size A L:=by
 obtain ⟨A,c,e,h1,-,h2⟩:=h.form
 refine ⟨A,c,e,h1,?_,h2⟩
 rcases h.2 with ⟨e2,-⟩ | ⟨g,cap,cur,e2,-⟩
 ·rw [e2] at e;injection e with e3 e4 e5;exact .inl ⟨e3.symm,e5.symm⟩
 ·rw [e2] at e;injection e with e3 e4 e5;exact .inr ⟨g,e3.symm⟩
section
variable {w:World}
end
end
section
attribute [local go_sem ↓] Go.wp_at_zero Go.wp_at_succ
theorem SO.storeT {w:World} {base g n c:Nat} {M:List (List UInt8)} (h:SO w base (.slice (some ⟨g,0,none⟩) n c) M) (k:Nat) (y:List UInt8) :
  SO (w.setCell ⟨g,k,none⟩ (.string (bs y))) base (.slice (some ⟨g,0,none⟩) n c) (M.set k y):=by
 have hn:=(SO.cells h).1
 subst hn
 have h1:=(World.ownsRow.stored (g:=g) (cap:=c) h k (.string (bs y))).1
 unfold SO
 rw [List.map_set,List.length_set]
 exact h1
def fillT (L:List (List UInt8)) (k:Nat):List (List UInt8):=L.take k++List.replicate (L.length - k) []
theorem fillT_len {L:List (List UInt8)} {k:Nat} (h:k<=L.length):(fillT L k).length=L.length:=by simp [fillT];omega
theorem fillT_all (L:List (List UInt8)):fillT L L.length=L:=by simp [fillT]
theorem fillT_succ {L:List (List UInt8)} {k:Nat} (h:k < L.length):(fillT L k).set k (ZS L k)=fillT L (k+1):=by
 apply List.ext_getElem (by simp [fillT];omega)
 intro i h1 h2
 simp only [fillT,List.length_set,List.length_append,List.length_take,List.length_replicate] at h1 h2
 simp only [fillT,List.getElem_set]
 by_cases he:k=i
 ·subst he
  rw [if_pos rfl,List.getElem_append_left (by simp;omega)]
  simp [ZS,h]
 ·rw [if_neg he]
  by_cases hi:i < k
  ·rw [List.getElem_append_left (by simp;omega),List.getElem_append_left (by simp;omega)];simp
  ·rw [List.getElem_append_right (by simp;omega),List.getElem_append_right (by simp;omega),List.getElem_replicate,List.getElem_replicate]
theorem c_szStringS (L:List (List UInt8)) (A:Option Addr) (c:Nat) (l:Int) (w:World) (hA:Ss w w.heap.size A L) (h0:0<=l) (hl:l<=1048576) (hn:L.length<=9223372036854775807) (hk:∀ k,k < L.length->(ZS L k).length<=9223372036854775807) :
  Calls Tryz.prog 33 #[.slice A L.length c,.int .i64 l] w fun e w'=>∃ r:Int,e=.returned (.int .i64 r)∧w=w'∧r<=l∧-1<=r∧(0<=r->L.length<=1048576∧∀ k,k < L.length->(ZS L k).length<=1048576):=by
 have q1:IntKind.i64.wrap (l - (L.length:Int))=l - (L.length:Int):=IntWalk.i64_in _ (by omega)
 go_enter Tryz.func33,Tryz.ntmps33
 by_cases h:(L.length:Int)<=l
 ·have d1:decide (l - (L.length:Int) < 0)=false:=decide_eq_false (by omega)
  go_wp2_with fail
  clear q1 d1
  go_loopw [1,5] (fun lv i wr=>∃ (k:Nat) (r:Int),k<=L.length∧i=.int .i64 k∧lv=.int .i64 r∧0<=r∧r<=l∧(∀ j,j < k->(ZS L j).length<=1048576)∧w=wr) (fun _ i _=>L.length - (intOf i).toNat)
  case atStart=>exact ⟨0,l - (L.length:Int),by omega,rfl,rfl,by omega,by omega,fun j hj=>by omega,by first | rfl | trivial⟩
  case round =>
   obtain ⟨k,r,hk1,rfl,rfl,hr0,hr1,hlo,hw⟩:=hrel
   subst hw
   by_cases hlt:k < L.length
   ·obtain ⟨b,off,rfl,hlb,hc⟩:=hA (by omega)
    have p:=hc k hlt
    have hz:=bs_size (ZS L k)
    have hkk:=hk k hlt
    have q2:IntKind.i64.wrap (r - ((ZS L k).length:Int))=r - ((ZS L k).length:Int):=IntWalk.i64_in _ (by omega)
    clear hc
    by_cases h2:((ZS L k).length:Int)<=r
    ·have d2:decide (r - ((ZS L k).length:Int) < 0)=false:=decide_eq_false (by omega)
     go_wp2_with fail
     go_roundw
     case rel=>exact ⟨k+1,r - ((ZS L k).length:Int),by omega,by go_num,rfl,by omega,by omega,fun j hj=>by (rcases Nat.lt_succ_iff_lt_or_eq.1 hj with h3 | rfl;exact hlo j h3;omega),by first | rfl | trivial⟩
     case measure=>simp [intOf];omega
    ·have d2:decide (r - ((ZS L k).length:Int) < 0)=true:=decide_eq_true (by omega)
     go_wp2_with fail
     go_ret
     exact ⟨-1,rfl,by first | rfl | trivial,by omega,by omega,fun h3=>by omega⟩
   ·go_wp2_with fail
    go_ret
    exact ⟨r,rfl,by first | rfl | trivial,hr1,by omega,fun _=>⟨by omega,fun j hj=>hlo j (by omega)⟩⟩
 ·have d1:decide (l - (L.length:Int) < 0)=true:=decide_eq_true (by omega)
  go_wp2_with fail
  go_ret
  exact ⟨-1,rfl,by first | rfl | trivial,by omega,by omega,fun h3=>by omega⟩
theorem c_toStringS (L:List (List UInt8)) (A:Option Addr) (c:Nat) (w:World) (hA:Ss w w.heap.size A L) (hn:L.length<=1048576) :
  Calls Tryz.prog 34 #[.slice A L.length c] w fun e w'=>∃ v,e=.returned v∧SO w' w.heap.size v L∧Below w.heap.size w w':=by
 obtain ⟨i0,hi,hz0,hz1,hz2⟩:=info_parts infoStr
 go_enter Tryz.func34,Tryz.ntmps34
 go_wp2_with (at_make;refine wpList_make_full w rfl _ _ _ rfl w.heap.size 9 i0 _ 1 Tryz.underlying48 hi hz0 hz1 .i64 .i64 _ _ L.length rfl rfl rfl rfl (by rw [hz2];omega) (by simp only [maxLen];omega) (Nat.le_refl _) ?_;intro w1 hown1 hgr1)
 have hb1:Below w.heap.size w w1:=(Below.refl _ _).grown hgr1 (Nat.le_refl _) (by simp)
 have o1:SO w1 w.heap.size (.slice (some ⟨w.heap.size,0,none⟩) L.length L.length) (fillT L 0):=by
  unfold SO
  rw [fillT_len (by omega),show fillT L 0=List.replicate L.length [] by simp [fillT]]
  have e:(madeCells (Value.string ⟨#[]⟩).cells (L.length * 1)).toList=(List.replicate L.length ([]:List UInt8)).map sv:=by
   rw [List.map_replicate]
   apply List.ext_getElem?
   intro j
   by_cases h:j < L.length * 1
   ·have hz:(Value.string ⟨#[]⟩).cells=#[.string ⟨#[]⟩]:=rfl
    rw [hz,madeAt _ _ _ h]
    simp [show j < L.length by omega,sv,bs,Nat.mod_one]
   ·rw [List.getElem?_eq_none (by simp [madeCells];omega),List.getElem?_eq_none (by simp;omega)]
  rw [<- e]
  exact hown1
 clear hown1 hgr1
 go_loopw [4] (fun i wr=>∃ k:Nat,k<=L.length∧i=.int .i64 k∧SO wr w.heap.size (.slice (some ⟨w.heap.size,0,none⟩) L.length L.length) (fillT L k)∧Below w.heap.size w wr)
  (fun i _=>L.length - (intOf i).toNat)
 case atStart=>exact ⟨0,by omega,rfl,o1,hb1⟩
 case round =>
  obtain ⟨k,hk,rfl,hown,hb⟩:=hrel
  by_cases hlt:k < L.length
  ·obtain ⟨b,off,rfl,hlb,hc⟩:=hA (by omega)
   have c1:=(hb.cell (p:=⟨b,off+k,none⟩) hlb).trans (hc k hlt)
   clear hc
   have hsz:=hb.size
   clear hb1 hA o1
   obtain ⟨-,hcl,hfr⟩:=SO.cells hown
   have d1:=hcl k hlt
   have f1:=hfr k
   have HO:=Lib.hid (SO.storeT hown k (ZS L k))
   rw [fillT_succ hlt] at HO
   clear hcl hfr
   go_wp2_with fail
   go_roundw
   case rel=>exact ⟨k+1,by omega,by go_num,HO.out,by (repeat (first | exact hb | exact Below.refl _ _ | (with_reducible refine Below.drew ?_) | (with_reducible refine Below.drewN ?_ _) | (with_reducible refine Below.alloc ?_ ?_ _) | (with_reducible refine Below.setCell ?_ ?_ _) | (show _<=_;focus (first | omega | (simp;done) | (simp;omega)))))⟩
   case measure=>simp [intOf];omega
  ·go_wp2_with fail
   go_ret
   obtain rfl:k=L.length:=by omega
   rw [fillT_all] at hown
   exact ⟨_,rfl,hown,hb⟩
theorem c_eqStringS (L:List (List UInt8)) (A B:Option Addr) (c d:Nat) (w:World) (hA:Ss w w.heap.size A L) (hB:Ss w w.heap.size B L) (hn:L.length<=1048576) :
  Calls Tryz.prog 35 #[.slice A L.length c,.slice B L.length d] w fun e w'=>e=.returned (.bool true)∧Below w.heap.size w w':=by
 go_enter Tryz.func35,Tryz.ntmps35
 go_wp2_with fail
 go_loopw [5] (fun i wr=>∃ k:Nat,k<=L.length∧i=.int .i64 k∧Below w.heap.size w wr) (fun i _=>L.length - (intOf i).toNat)
 case atStart=>exact ⟨0,Nat.zero_le _,rfl,Below.refl _ _⟩
 case round =>
  obtain ⟨k,hk,rfl,hb⟩:=hrel
  have hsz:=hb.size
  by_cases hlt:k < L.length
  ·obtain ⟨b,off,rfl,hlb,hc⟩:=hA (by omega)
   obtain ⟨b2,off2,rfl,hlb2,hc2⟩:=hB (by omega)
   have c1:=WB.cell (B:=w.heap.size) (w:=wr) hlb ((hb.cell (p:=⟨b,off+k,none⟩) hlb).trans (hc k hlt))
   have c4:=WB.cell (B:=w.heap.size) (w:=wr) hlb2 ((hb.cell (p:=⟨b2,off2+k,none⟩) hlb2).trans (hc2 k hlt))
   have z1:(0:Int)<=(k:Int):=by omega
   have z2:(k:Int) < (L.length:Int):=by omega
   have hne:((bs (ZS L k)).toList != (bs (ZS L k)).toList)=false:=by simp
   clear hc hc2
   go_wp2_with fail
   refine wp_region_wb w.heap.size (by kernel_rfl) (by kernel_rfl) ?_
   repeat (go_big_quiet_step (fail))
   refine wpQuiet_nil ?_
   rintro w5 ⟨⟨_,hb5⟩,rfl⟩
   go_wp2_with fail
   go_roundw
   case rel=>exact ⟨k+1,by omega,by go_num,hb.trans hb5⟩
   case measure=>simp [intOf];omega
  ·go_wp2_with fail
   go_ret
   exact ⟨rfl,hb⟩
end
section
attribute [local go_sem ↓] Go.wp_at_zero Go.wp_at_succ
def numZ (m:Nat):List UInt8:=if m=0 then [] else numL m
theorem numZ_step {m:Nat} (h:0 < m):numZ m=numZ (m / 10)++[dig8 m]:=by
 unfold numZ
 rw [if_neg (by omega)]
 by_cases h9:m < 10
 ·rw [if_pos (by omega),numL_one h9];rfl
 ·rw [if_neg (by omega),numL_more h9]
def markT (n:Nat):List UInt8:=109::numL n
theorem c_markText (n:Nat) (w:World) (h0:0 < n) (hn:n<=1000000000) :
  Calls Tryz.prog 93 #[.int .i64 (n:Int)] w fun e w'=>e=.returned (.string (bs (markT n)))∧Below w.heap.size w w':=by
 have p0:¬ ((n:Int)<=0):=by omega
 have hnl:=numL_len 9 n (by omega)
 go_enter Tryz.func93,Tryz.ntmps93
 go_wp2_with fail
 go_loopw [0,3] (fun kv ov wr=>∃ (m:Nat) (out:List UInt8),m<=n∧kv=.int .i64 (m:Int)∧ov=.string (bs out)∧numZ m++out=numL n∧Below w.heap.size w wr) (fun kv _ _=>(intOf kv).toNat)
 case atStart=>exact ⟨n,[],Nat.le_refl _,rfl,rfl,by rw [numZ,if_neg (by omega)];simp,Below.refl _ _⟩
 case round =>
  obtain ⟨m,out,hm,rfl,rfl,hz,hb⟩:=hrel
  by_cases hm0:0 < m
  ·have hol:out.length<=10:=by have:=congrArg List.length hz;rw [List.length_append] at this;omega
   obtain ⟨q,hq⟩:∃ q:Nat,m / 10=q:=⟨_,rfl⟩
   obtain ⟨r,hr⟩:∃ r:Nat,m % 10=r:=⟨_,rfl⟩
   have hd:=dig8_nat m
   have hst:=numZ_step hm0
   rw [hq] at hst
   rw [hst,List.append_assoc] at hz
   have HZ:=Lib.hid hz
   have q2:(m:Int).tdiv 10=(q:Int):=by rw [Int.tdiv_eq_ediv_of_nonneg (by omega)];omega
   have q3:(m:Int).tmod 10=(r:Int):=by rw [Int.tmod_eq_emod_of_nonneg (by omega)];omega
   have q4:IntKind.i64.wrap (48+(r:Int))=48+(r:Int):=IntWalk.i64_in _ (by omega)
   have q5:IntKind.i64.wrap (q:Int)=(q:Int):=IntWalk.i64_in _ (by omega)
   have q6:IntKind.u8.wrap (48+(r:Int))=48+(r:Int):=by show (48+(r:Int)) % 256=_;omega
   have hcv:=run_conv1 (dig8 m) (48+(r:Int)) (by omega) wr
   have z1:(bs out).size<=10:=by rw [bs_size];exact hol
   have z2:(bs [dig8 m]).size=1:=by rw [bs_size];rfl
   have hzz:¬ ((bs [dig8 m]).size+(bs out).size > 9223372036854775807):=by omega
   have hbz:Below w.heap.size w (wr.alloc (.cells #[.int .u8 (48+(r:Int))] 5)):=hb.alloc hb.size _
   have hlt:q < m:=by omega
   clear hst hz hd
   go_wp2_with fail
   go_roundw
   case rel=>exact ⟨q,[dig8 m]++out,by omega,rfl,by rw [<- bs_append],HZ.out,hbz⟩
   case measure=>simp [intOf];omega
  ·obtain rfl:m=0:=by omega
   have ho:out=numL n:=by rw [<- hz];rfl
   subst ho
   have z1:(bs (numL n)).size<=10:=by rw [bs_size];omega
   clear hz
   go_wp2_with fail
   go_ret
   exact ⟨by rw [markT,show (109:UInt8)::numL n=[109]++numL n from rfl,<- bs_append];rfl,hb⟩
def marksT (n k:Nat):List (List UInt8):=(List.range n).map fun (i:Nat)=>markT (k+i)
theorem marksT_len (n k:Nat):(marksT n k).length=n:=by simp [marksT]
theorem marksT_at {n i k:Nat} (h:i < n):ZS (marksT n k) i=markT (k+i):=by simp [ZS,marksT,h]
def markTTo (L:List (List UInt8)) (k i:Nat):List (List UInt8):=(marksT L.length k).take i++L.drop i
theorem markTTo_all (L:List (List UInt8)) (k:Nat):markTTo L k L.length=marksT L.length k:=by
 have h:=marksT_len L.length k
 simp [markTTo,List.take_of_length_le (show (marksT L.length k).length<=L.length by omega)]
theorem markTTo_succ {L:List (List UInt8)} {k i:Nat} (h:i < L.length):(markTTo L k i).set i (markT (k+i))=markTTo L k (i+1):=by
 have hm:=marksT_len L.length k
 apply List.ext_getElem (by simp [markTTo,hm];omega)
 intro j h1 h2
 simp only [markTTo,List.length_set,List.length_append,List.length_take,List.length_drop,hm] at h1 h2
 simp only [markTTo,List.getElem_set]
 by_cases he:i=j
 ·subst he
  rw [if_pos rfl,List.getElem_append_left (by simp [hm];omega)]
  simp [marksT]
 ·rw [if_neg he]
  by_cases hj:j < i
  ·rw [List.getElem_append_left (by simp [hm];omega),List.getElem_append_left (by simp [hm];omega)];simp
  ·rw [List.getElem_append_right (by simp [hm];omega),List.getElem_append_right (by simp [hm];omega)]
   simp only [List.getElem_drop,List.length_take,hm]
   congr 1
   omega
theorem grown_setT (w:World) (r o:Nat) (u:Value):w.grownBy (w.setCell ⟨r,o,none⟩ u) (some r) :=
 ⟨rfl,rfl,rfl,by simp [World.setCell],fun k _ hne=>Below.heap_setCell _ _ _ _ (fun e=>hne (by rw [e]))⟩
theorem c_markStringS (L:List (List UInt8)) (k0:Nat) (v:Value) (base:Nat) (w:World) (hv:SO w base v L) (hn:L.length<=1048576) (hk0:0 < k0) (hk1:k0<=100000000) :
  Calls Tryz.prog 36 #[v,.int .i64 (k0:Int)] w fun e w'=>e=.returned (.int .i64 ((k0+L.length:Nat):Int))∧SO w' base v (marksT L.length k0)∧w.grownBy w' v.ownBlock:=by
 rcases hv.2 with ⟨rfl,h0⟩ | ⟨g,cap,cur,rfl,-⟩
 ·have e:marksT L.length k0=[]:=by rw [h0];rfl
  rw [e,h0]
  go_enter Tryz.func36,Tryz.ntmps36
  go_wp2_with fail
  refine wp_loop_rounds 1 ?_
  rw [rounds_succ]
  go_wp2_with fail
  go_ret
  exact ⟨by first | rfl | simp,SO.nil _ _,World.grownBy.refl _ _⟩
 ·have hgb:g < w.heap.size:=owns_lt hv g (by simp [Value.ownBlock])
  go_enter Tryz.func36,Tryz.ntmps36
  go_wp2_with fail
  go_loopw [1,5] (fun kk i wr=>∃ k:Nat,k<=L.length∧i=.int .i64 k∧kk=.int .i64 ((k0+k:Nat):Int)∧SO wr base (.slice (some ⟨g,0,none⟩) L.length cap) (markTTo L k0 k)∧w.grownBy wr (some g))
   (fun _ i _=>L.length - (intOf i).toNat)
  case atStart=>exact ⟨0,by omega,rfl,by simp,by simpa [markTTo] using hv,World.grownBy.refl _ _⟩
  case round =>
   obtain ⟨k,hk,rfl,rfl,hown,hgr⟩:=hrel
   have hsz:=hgr.size
   by_cases hlt:k < L.length
   ·have HM:=Lib.hid (c_markText (k0+k) wr (by omega) (by omega))
    clear hv
    go_wp2_with fail
    refine HM.out.mono ?_
    rintro e w5 ⟨rfl,hb5⟩
    have o5:=SO.below hown hb5 (Nat.le_refl _)
    obtain ⟨-,hcl,hfr⟩:=SO.cells o5
    have d1:=hcl k hlt
    have f1:=hfr k
    have HO:=Lib.hid (SO.storeT o5 k (markT (k0+k)))
    rw [markTTo_succ hlt] at HO
    have hg5:w.grownBy w5 (some g):=hgr.trans (grown_thenB (World.grownBy.refl _ _) hb5)
    have HG:=Lib.hid (hg5.trans (grown_setT w5 g k (.string (bs (markT (k0+k))))))
    clear hcl hfr hown o5 HM
    go_wp2_with fail
    go_roundw
    case rel=>exact ⟨k+1,by omega,by go_num,by go_num,HO.out,HG.out⟩
    case measure=>simp [intOf];omega
   ·obtain rfl:k=L.length:=by omega
    go_wp2_with fail
    go_ret
    rw [markTTo_all] at hown
    exact ⟨rfl,hown,hgr⟩
theorem c_heldStringS (n k0:Nat) (A:Option Addr) (c:Nat) (w:World) (hA:Ss w w.heap.size A (marksT n k0)) (hn:n<=1048576) (hk0:0 < k0) (hk1:k0<=100000000) :
  Calls Tryz.prog 37 #[.slice A n c,.int .i64 (k0:Int)] w fun e w'=>e=.returned (.int .i64 ((k0+n:Nat):Int))∧Below w.heap.size w w':=by
 go_enter Tryz.func37,Tryz.ntmps37
 go_wp2_with fail
 go_loopw [1,5] (fun kk i wr=>∃ k:Nat,k<=n∧i=.int .i64 k∧kk=.int .i64 ((k0+k:Nat):Int)∧Below w.heap.size w wr) (fun _ i _=>n - (intOf i).toNat)
 case atStart=>exact ⟨0,Nat.zero_le _,rfl,by simp,Below.refl _ _⟩
 case round =>
  obtain ⟨k,hk,rfl,rfl,hb⟩:=hrel
  have hsz:=hb.size
  by_cases hlt:k < n
  ·obtain ⟨b,off,rfl,hlb,hc⟩:=hA (by rw [marksT_len];omega)
   have hck:=hc k (by rw [marksT_len];exact hlt)
   rw [marksT_at hlt] at hck
   have c1:=WB.cell (B:=w.heap.size) (w:=wr) hlb ((hb.cell (p:=⟨b,off+k,none⟩) hlb).trans hck)
   have z1:(0:Int)<=(k:Int):=by omega
   have z2:(k:Int) < (n:Int):=by omega
   have HM:=Lib.hid (fun W=>c_markText (k0+k) W (by omega) (by omega))
   have hne:((bs (markT (k0+k))).toList != (bs (markT (k0+k))).toList)=false:=by simp
   clear hc hck
   go_wp2_with fail
   refine wp_region_wb w.heap.size (by kernel_rfl) (by kernel_rfl) ?_
   repeat (go_big_quiet_step ((go_at_call 93;exact Calls.inB hsz (HM.out _))))
   refine wpQuiet_nil ?_
   rintro w5 ⟨⟨_,hb5⟩,rfl⟩
   go_wp2_with fail
   go_roundw
   case rel=>exact ⟨k+1,by omega,by go_num,by go_num,hb.trans hb5⟩
   case measure=>simp [intOf];omega
  ·obtain rfl:k=n:=by omega
   go_wp2_with fail
   go_ret
   exact ⟨rfl,hb⟩
end
section
attribute [local go_sem ↓] Go.wp_at_zero Go.wp_at_succ
theorem Z_workTo {L:List (Int×Int)} {n k:Nat} (h:k < n):Z (workTo L n) k=wk L k:=by simp [Z,workTo,h]
theorem c_l3Work (L:List (Int×Int)) (h:cOk L=true) (A:Option Addr) (c:Nat) (m:Nat) (hm:m<=200) (w:World) (hA:Cs w w.heap.size A L) (hn:L.length<=140737488351232) :
  Calls Tryz.prog 121 #[.slice A L.length c,.int .i64 m] w fun e w'=>∃ v,e=.returned v∧IO w' w.heap.size v (workTo L (m+1))∧Below w.heap.size w w':=by
 have Hbd:=Lib.hid (fun k=>@cOk_bd L k h)
 have Harr:=Lib.hid (fun t j hj=>@arrTo_nn L h t j hj)
 have Hwk:=Lib.hid (fun t=>@wk_bd L h t)
 have hlen:=cOk_len h
 clear h
 go_enter Tryz.func121,Tryz.ntmps121
 go_wp2_with fail
 go_loopw [5,6,7] (fun o s i wr=>∃ t:Nat,t<=m+1∧i=.int .i64 t∧s=.int .i64 (carry L t)∧IO wr w.heap.size o (workTo L t)∧Below w.heap.size w wr)
  (fun _ _ i _=>m+1 - (intOf i).toNat)
 case atStart=>exact ⟨0,by omega,rfl,rfl,IO.empty _ (Nat.le_refl _),by (repeat (first | exact rfl | exact Below.refl _ _ | (with_reducible refine Below.drew ?_) | (with_reducible refine Below.drewN ?_ _) | (with_reducible refine Below.alloc ?_ ?_ _) | (with_reducible refine Below.setCell ?_ ?_ _) | (show _<=_;focus (first | omega | (simp;done) | (simp;omega)))))⟩
 case round =>
  obtain ⟨t,ht,rfl,rfl,hown,hb⟩:=hrel
  have hsz:=hb.size
  by_cases hlt:t<=m
  ·have bw:=Hwk.out t
   have hwc:=wk_carry L t
   have bc:0<=carry L t∧carry L t<=72:=by
    have:=(Harr.out (t:Int) L.length (Nat.le_refl _)).1
    cases t with
    | zero=>simp [carry]
    | succ u=>have:=Hwk.out u;simp only [carry];omega
   have HWC:=Lib.hid hwc
   clear hwc
   go_wp2_with fail
   go_loop [6,8] (fun s i=>∃ j:Nat,j<=L.length∧i=.int .i64 j∧s=.int .i64 (carry L t+arrTo L t j))
    (fun _ i=>L.length - (intOf i).toNat)
   case atStart=>exact ⟨0,by omega,rfl,by simp [arrTo]⟩
   case round =>
    obtain ⟨j,hj,rfl,rfl⟩:=hrel
    by_cases hjl:j < L.length
    ·obtain ⟨b,off,rfl,hlb,hc⟩:=hA (by omega)
     have c1:=(hb.cell (p:=⟨b,off+j * 2,none⟩) hlb).trans (hc j hjl).1
     have c2:=(hb.cell (p:=⟨b,off+j * 2+1,none⟩) hlb).trans (hc j hjl).2
     clear hc
     have b1:=Harr.out (t:Int) j (by omega)
     have b2:=Hbd.out j hjl
     by_cases he:X L j=t
     ·have heb:(X L j == (t:Int))=true:=beq_iff_eq.2 he
      have E:=Lib.hid (show arrTo L t (j+1)=arrTo L t j+Y L j by simp only [arrTo];rw [if_pos he])
      clear he
      go_wp2_with fail
      go_round
      case rel=>exact ⟨j+1,by omega,by go_num,by rw [E.out];simp;omega⟩
      case measure=>simp [intOf];omega
     ·have heb:(X L j == (t:Int))=false:=beq_eq_false_iff_ne.2 he
      have E:=Lib.hid (show arrTo L t (j+1)=arrTo L t j by simp only [arrTo];rw [if_neg he];omega)
      clear he
      go_wp2_with fail
      go_round
      case rel=>exact ⟨j+1,by omega,by go_num,by rw [E.out]⟩
      case measure=>simp [intOf];omega
    ·have hjf:¬ ((j:Int) < (L.length:Int)):=by omega
     have hv:carry L t+arrTo L t j=wk L t:=by rw [HWC.out,show j=L.length by omega];rfl
     rw [hv]
     clear hv
     have q5:(workTo L t).length<=1000000000000:=by rw [workTo_len];omega
     go_wp2_with (refine app_I ?_ (.tmp 35) (.tmp 37) ?_ w.heap.size u5 (workTo L t) (wk L t) wr.heap.size ?_ ?_ ?_ ?_ ?_ ?_ ?_;rfl;rfl;rfl;exact (hown.alloc _);rfl;exact (heap_alloc_new _ _);exact q5;exact (Nat.le_trans hsz (by simp));intro g7 cap w7 hown7 hgr7 hb7)
     go_roundw
     case rel =>
      refine ⟨t+1,by omega,by go_num,?_,by rw [workTo_succ];exact hown7,?_⟩
      ·simp only [carry]
       congr 1
       split <;> omega
      ·refine Below.trans ?_ hb7
       (repeat (first | exact hb | exact Below.refl _ _ | (with_reducible refine Below.drew ?_) | (with_reducible refine Below.drewN ?_ _) | (with_reducible refine Below.alloc ?_ ?_ _) | (with_reducible refine Below.setCell ?_ ?_ _) | (show _<=_;focus (first | omega | (simp;done) | (simp;omega)))))
     case measure=>simp [intOf];omega
  ·have hlf:¬ ((t:Int)<=(m:Int)):=by omega
   go_wp2_with fail
   go_ret
   refine ⟨_,rfl,?_,hb⟩
   rw [show m+1=t by omega]
   exact hown
theorem c_sWorkAt (L:List (Int×Int)) (A:Option Addr) (c:Nat) (t:Int) (w:World) (hA:Cs w w.heap.size A L) (hn:L.length<=140737488351232) :
  Calls Tryz.prog 77 #[.slice A L.length c,.int .i64 t] w fun e w'=>e=.returned (.int .i64 (workV L t))∧Below w.heap.size w w':=by
 by_cases hp:momentOk L t=true
 ·have HV:=Lib.hid (workV_yes hp)
  obtain ⟨n,rfl,hn2,h⟩:=momentOk_nat hp
  have ht':decide ((0:Int)<=(n:Int)∧(n:Int)<=200)=true:=by simp;omega
  have hlen:=cOk_len h
  have H:=Lib.hid h;clear h hp
  go_enter Tryz.func77,Tryz.ntmps77
  go_wp2_with fail
  refine (c_sCustomersOk L A c _ hA hn).mono ?_
  rintro e w1 ⟨rfl,hb1⟩
  rw [H.out]
  go_wp2_with fail
  refine (c_l1In _ _ _ _).mono ?_
  rintro e w' ⟨rfl,rfl⟩
  rw [ht']
  clear ht'
  have hs1:=hb1.size
  go_wp2_with fail
  refine (c_l3Work L H.out A c n hn2 _ ((hA.below hb1).more hs1) hn).mono ?_
  rintro e w2 ⟨v,rfl,o2,hb2⟩
  obtain ⟨G,g,rfl,-,hG⟩:=o2.formG
  rw [workTo_len] at hG ⊢
  obtain ⟨gb,rfl,-,hgb,hgc⟩:=hG (by omega)
  have HGC:=Lib.hid hgc
  have k1:(0:Int)<=(n:Int):=by omega
  have k2:(n:Int) < ((n+1:Nat):Int):=by omega
  have hb3:=hb1.trans (hb2.mono hs1)
  clear hG hgc o2 hb2 hb1
  have c1:=HGC.out n (by omega)
  rw [Z_workTo (by omega)] at c1
  go_wp2_with fail
  go_ret
  exact ⟨by rw [HV.out];rfl,hb3⟩
 ·have hpn:momentOk L t=false:=by simpa using hp
  have HV:=Lib.hid (workV_no hpn)
  by_cases h:cOk L=true
  ·have ht':decide (0<=t∧t<=200)=false:=by simpa [momentOk,h] using hpn
   have H:=Lib.hid h;clear h hp hpn
   go_enter Tryz.func77,Tryz.ntmps77
   go_wp2_with fail
   refine (c_sCustomersOk L A c _ hA hn).mono ?_
   rintro e w1 ⟨rfl,hb1⟩
   rw [H.out]
   go_wp2_with fail
   refine (c_l1In _ _ _ _).mono ?_
   rintro e w' ⟨rfl,rfl⟩
   rw [ht']
   clear ht'
   go_wp2_with fail
   go_ret
   exact ⟨by rw [HV.out];rfl,hb1⟩
  ·have hno:cOk L=false:=by simpa using h
   have H:=Lib.hid hno;clear h hno hp hpn
   go_enter Tryz.func77,Tryz.ntmps77
   go_wp2_with fail
   refine (c_sCustomersOk L A c _ hA hn).mono ?_
   rintro e w1 ⟨rfl,hb1⟩
   rw [H.out]
   go_wp2_with fail
   go_ret
   exact ⟨by rw [HV.out];rfl,hb1⟩
end
section
attribute [local go_sem ↓] Go.wp_at_zero Go.wp_at_succ
def rows (B:List (Int×Int)):List (List Int):=B.map fun c=>[c.1,c.2]
theorem rows_len (B:List (Int×Int)):(rows B).length=B.length:=by simp [rows]
theorem rows_app (B:List (Int×Int)) (c:Int×Int):rows (B++[c])=rows B++[[c.1,c.2]]:=by simp [rows]
theorem rows_set (B:List (Int×Int)) (n:Nat) (c:Int×Int):rows (B.set n c)=(rows B).set n [c.1,c.2]:=by simp [rows]
theorem rows_get {B:List (Int×Int)} {k:Nat} (h:k < B.length):(rows B).getD k []=[X B k,Y B k]:=by simp [rows,X,Y,h]
theorem heap_new2' (w:World) (o p:Obj):((w.alloc o).alloc p).heap[w.heap.size+1]?=some p:=by
 have h:=heap_alloc_new (w.alloc o) p
 rwa [show (w.alloc o).heap.size=w.heap.size+1 by simp] at h
theorem alloc_setLow (w:World) (o:Obj) (g k:Nat) (u:Value) (h:g < w.heap.size):(w.alloc o).setCell ⟨g,k,none⟩ u=(w.setCell ⟨g,k,none⟩ u).alloc o:=by
 simp only [World.alloc,World.setCell]
 congr 1
 apply Array.ext_getElem?
 intro i
 simp only [Array.getElem?_modify,Array.getElem?_push,Array.size_modify]
 by_cases e:i=w.heap.size
 ·subst e;simp;omega
 ·simp [e]
theorem IO.lit2 (w:World) {base:Nat} (hb:base<=w.heap.size) (x y:Int):IO (w.alloc (.cells #[.int .i64 x,.int .i64 y] 3)) base (.slice (some ⟨w.heap.size,0,none⟩) 2 2) [x,y] :=
 ⟨rfl,.inr ⟨w.heap.size,2,#[.int .i64 x,.int .i64 y],rfl,hb,heap_alloc_new _ _,Nat.le_refl _,by simp [maxLen],rfl,rfl⟩⟩
theorem Mid.setOut {lo hi g k:Nat} {w1 w:World} {u:Value} (h:Mid lo hi w1 w) (hg:g=lo∨hi<=g):Mid lo hi w1 (w.setCell ⟨g,k,none⟩ u):=fun b h1 h2 =>
 (Below.heap_setCell _ _ _ _ (by show b≠g;omega)).trans (h b h1 h2)
theorem IOO.pair {w:World} {base:Nat} {v:Value} {B:List (Int×Int)} {vs:List Value} (h:IOO w base v (rows B) vs) {k:Nat} (hk:k < B.length) :
  ∃ ib ic,vs.getD k undef=.slice (some ⟨ib,0,none⟩) 2 ic∧base<=ib∧ib < w.heap.size∧w.cell? ⟨ib,0,none⟩=some (.int .i64 (X B k))∧w.cell? ⟨ib,1,none⟩=some (.int .i64 (Y B k)):=by
 have hi:=h.inner k (by rw [rows_len];exact hk)
 rw [rows_get hk] at hi
 obtain ⟨A,c,hv,_,hc⟩:=hi.formG
 obtain ⟨ib,rfl,h1,h2,h3⟩:=hc (by simp)
 exact ⟨ib,c,hv,h1,h2,h3 0 (by simp),h3 1 (by simp)⟩
theorem c_sBusyOf (L:List (Int×Int)) (A:Option Addr) (c:Nat) (w:World) (hA:Cs w w.heap.size A L) (hn:L.length<=140737488351232) :
  Calls Tryz.prog 71 #[.slice A L.length c] w fun e w'=>∃ v,e=.returned v∧(∃ vs,IOO w' w.heap.size v (rows (busyP L)) vs)∧Below w.heap.size w w':=by
 by_cases h:cOk L=true
 ·have HV:=Lib.hid (busyP_yes h)
  have hlen:=cOk_len h
  have H:=Lib.hid h;clear h
  go_enter Tryz.func71,Tryz.ntmps71
  go_wp2_with fail
  have hb0:Below w.heap.size w (w.alloc (.cells #[] 85)):=by (repeat (first | exact rfl | exact Below.refl _ _ | (with_reducible refine Below.drew ?_) | (with_reducible refine Below.drewN ?_ _) | (with_reducible refine Below.alloc ?_ ?_ _) | (with_reducible refine Below.setCell ?_ ?_ _) | (show _<=_;focus (first | omega | (simp;done) | (simp;omega)))))
  refine (c_sCustomersOk L A c _ ((hA.below hb0).more hb0.size) hn).mono ?_
  rintro e w5 ⟨rfl,hb5⟩
  rw [H.out]
  have hbx:=hb0.trans (hb5.mono hb0.size)
  have own0:=(IOO.empty w (Nat.le_refl _)).below hb5 (Nat.le_refl _)
  have hsx:w.heap.size < w5.heap.size:=by have:=hb5.size;simp at this;omega
  clear hb0 hb5
  go_wp2_with fail
  refine (c_l3Work L H.out A c 200 (by omega) _ ((hA.below hbx).more hbx.size) hn).mono ?_
  rintro e w1 ⟨v1,rfl,o1,hb1⟩
  obtain ⟨G,g,rfl,-,hG⟩:=o1.formG
  rw [workTo_len] at hG ⊢
  obtain ⟨gb,rfl,hgb1,hgb,hgc⟩:=hG (by omega)
  have HGC:=Lib.hid hgc
  have hgbs:w.heap.size < gb:=by omega
  have hby:=hbx.trans (hb1.mono (by omega))
  have own1:=own0.below hb1 (Nat.le_refl _)
  have HM:=Lib.hid (And.intro hgbs (And.intro hgb (show w.heap.size<=w1.heap.size by omega)))
  clear hG hgc o1 hb1 own0 hbx hgbs hgb hgb1 hsx
  go_wp2_with fail
  go_loopw [3,5] (fun o i wr=>∃ (t:Nat) (vs:List Value),t<=200∧i=.int .i64 t∧IOO wr w.heap.size o (rows (busyT L t)) vs∧Hid (Sep w.heap.size w1.heap.size o)∧Hid (Mid w.heap.size w1.heap.size w1 wr)∧w1.heap.size<=wr.heap.size∧Below w.heap.size w wr)
   (fun _ i _=>200 - (intOf i).toNat)
  case atStart=>exact ⟨0,_,by omega,rfl,own1,Sep.lo _ _ _ _,Mid.refl _ _ _,Nat.le_refl _,hby⟩
  case round =>
   obtain ⟨t,vs,ht,rfl,hown,hsep,hmid,hz1,hb⟩:=hrel
   have hsz:=hb.size
   by_cases hlt:t < 200
   ·have c1:wr.cell? ⟨gb,t,none⟩=some (.int .i64 (wk L t)):=by
     rw [hmid.out.cell HM.out.1 HM.out.2.1,HGC.out t (by omega),Z_workTo (by omega)]
    have p1:(0:Int)<=(t:Int):=by omega
    have p2:(t:Int) < ((200+1:Nat):Int):=by omega
    have p3:(t:Int) < 200:=by omega
    by_cases hw:wk L t=0
    ·have hwb:(wk L t == 0)=true:=beq_iff_eq.2 hw
     have E:=Lib.hid (show busyT L (t+1)=busyT L t by simp only [busyT];rw [if_pos hw])
     clear hw
     go_wp2_with fail
     go_roundw
     case rel=>exact ⟨t+1,vs,by omega,by go_num,by rw [E.out];exact hown,hsep,hmid,hz1,hb⟩
     case measure=>simp [intOf];omega
    ·have hwb:(wk L t == 0)=false:=beq_eq_false_iff_ne.2 hw
     have E:=Lib.hid (show busyT L (t+1)=busyNext (busyT L t) t by simp only [busyT];rw [if_neg hw])
     clear hw
     have hbl:=busyT_len L t
     generalize busyT L t=B at hown E hbl
     obtain ⟨O,oc,rfl,hoc,-,hO⟩:=hown.form
     rw [rows_len] at hO hown hsep ⊢
     have HO:=Lib.hid hO
     have HOC:=Lib.hid hoc
     clear hO hoc
     by_cases hB0:B.length=0
     ·have hB':B=[]:=List.eq_nil_of_length_eq_zero hB0
      have E2:=Lib.hid (show rows (busyNext B t)=rows B++[[(t:Int),(t:Int)+1]] by rw [hB'];rfl)
      have hq1:(B.length:Int) < 1:=by omega
      have hq2:(B.length:Int) - 1 < 0:=by omega
      clear hB' hB0
      have q5:(rows B).length<=1000000000:=by rw [rows_len];omega
      have hW:Below wr.heap.size wr ((wr.alloc (.cells #[.int .i64 (t:Int),.int .i64 ((t:Int)+1)] 3)).alloc (.cells #[.slice (some ⟨wr.heap.size,0,none⟩) 2 2] 85)):=by (repeat (first | exact rfl | exact Below.refl _ _ | (with_reducible refine Below.drew ?_) | (with_reducible refine Below.drewN ?_ _) | (with_reducible refine Below.alloc ?_ ?_ _) | (with_reducible refine Below.setCell ?_ ?_ _) | (show _<=_;focus (first | omega | (simp;done) | (simp;omega)))))
      have HU:=Lib.hid (And.intro hsz (And.intro hz1 (And.intro q5 hW)))
      clear hsz hz1 q5 hW
      go_wp2_with (refine app_OO ?_ (.tmp 50) (.tmp 55) ?_ w.heap.size (.slice O B.length oc) (rows B) vs wr (.slice (some ⟨wr.heap.size,0,none⟩) 2 2) [(t:Int),(t:Int)+1] (wr.heap.size+1) ?_ ?_ ?_ ?_ ?_ ?_ ?_ ?_ ?_ ?_ w.heap.size w1.heap.size w1 ?_ ?_ ?_ ?_;rfl;rfl;rfl;exact hown;exact HU.out.2.2.2;exact ((IO.lit2 wr HU.out.1 _ _).alloc _);(intro r e;simp [Value.ownBlock] at e;omega);rfl;rfl;exact (heap_new2' _ _ _);exact HU.out.2.2.1;exact (Nat.le_trans HU.out.1 HU.out.2.2.2.size);exact hsep.out;exact (hmid.out.below HU.out.2.2.2 HU.out.2.1);exact (Nat.le_trans HU.out.2.1 HU.out.2.2.2.size);intro g7 cap w7 hown7 hb70 hsep7 hmid7)
      have hz7:=hb70.size
      obtain ⟨hsz,hz1,-,hW⟩:=HU.out
      have hW2:=hW.size
      go_roundw
      case rel =>
       refine ⟨t+1,_,by omega,by go_num,by rw [E.out,E2.out];exact hown7,hsep7,hmid7,by omega,?_⟩
       exact (hb.trans (hW.mono hsz)).trans hb70
      case measure=>simp [intOf];omega
     ·have hpos:0 < B.length:=by omega
      obtain ⟨g0,rfl,hg0,hg0lt,hcl,hfz⟩:=HO.out hpos
      have d0:=hcl (B.length - 1) (by omega)
      obtain ⟨ib,ic,hvs,hib,hiblt,e1,e2⟩:=hown.pair (k:=B.length - 1) (by omega)
      rw [hvs] at d0
      have f0:=hfz (B.length - 1)
      have k1:(0:Int)<=(B.length:Int) - 1:=by omega
      have k2:(B.length:Int) - 1 < (B.length:Int):=by omega
      have k3:(1:Int)<=(B.length:Int):=by omega
      have k4:(B.length:Int)<=200:=by omega
      have k5:((B.length:Int) - 1).toNat=B.length - 1:=by omega
      have HVS:=Lib.hid hvs
      clear hcl hfz hvs HO hB0
      by_cases hy:Y B (B.length - 1)=t
      ·have hyb:(Y B (B.length - 1) == (t:Int))=true:=beq_iff_eq.2 hy
       have hl:lastIs B t=true:=decide_eq_true ⟨hpos,hy⟩
       have E2:=Lib.hid (show rows (busyNext B t)=(rows B).set (B.length - 1) [X B (B.length - 1),(t:Int)+1] by rw [busyNext,if_pos hl,rows_set])
       have hW:Below wr.heap.size wr (wr.alloc (.cells #[.int .i64 (X B (B.length - 1)),.int .i64 ((t:Int)+1)] 3)):=by (repeat (first | exact rfl | exact Below.refl _ _ | (with_reducible refine Below.drew ?_) | (with_reducible refine Below.drewN ?_ _) | (with_reducible refine Below.alloc ?_ ?_ _) | (with_reducible refine Below.setCell ?_ ?_ _) | (show _<=_;focus (first | omega | (simp;done) | (simp;omega)))))
       have hst:=hown.store (sl:=.slice (some ⟨wr.heap.size,0,none⟩) 2 2) (ys:=[X B (B.length - 1),(t:Int)+1]) hW (IO.lit2 wr hsz _ _) (by intro r e;simp [Value.ownBlock] at e;omega) (B.length - 1) (by omega)
       have hst2:=(hmid.out.below hW hz1).setOut (g:=g0) (k:=B.length - 1) (u:=.slice (some ⟨wr.heap.size,0,none⟩) 2 2) (hsep.out g0 (by simp [Value.ownBlock]))
       have hst3:=(hb.trans (hW.mono hsz)).setCell (p:=⟨g0,B.length - 1,none⟩) hg0 (.slice (some ⟨wr.heap.size,0,none⟩) 2 2)
       have hst4:w1.heap.size<=((wr.alloc (.cells #[.int .i64 (X B (B.length - 1)),.int .i64 ((t:Int)+1)] 3)).setCell ⟨g0,B.length - 1,none⟩ (.slice (some ⟨wr.heap.size,0,none⟩) 2 2)).heap.size:=by simp [World.setCell];omega
       rw [alloc_setLow wr _ _ _ _ hg0lt] at hst hst2 hst3 hst4
       have HS:=Lib.hid (And.intro hst (And.intro hst2 (And.intro hst3 hst4)))
       clear hst hst2 hst3 hst4 hW hl hy
       go_wp2_with fail
       go_roundw
       case rel=>exact ⟨t+1,_,by omega,by go_num,by rw [E.out,E2.out];exact HS.out.1,hsep,HS.out.2.1,HS.out.2.2.2,HS.out.2.2.1⟩
       case measure=>simp [intOf];omega
      ·have hyb:(Y B (B.length - 1) == (t:Int))=false:=beq_eq_false_iff_ne.2 hy
       have hl:lastIs B t=false:=decide_eq_false (fun h=>hy h.2)
       have E2:=Lib.hid (show rows (busyNext B t)=rows B++[[(t:Int),(t:Int)+1]] by rw [busyNext,hl,if_neg (by simp),rows_app])
       clear hl hy
       have q5:(rows B).length<=1000000000:=by rw [rows_len];omega
       have hW:Below wr.heap.size wr ((wr.alloc (.cells #[.int .i64 (t:Int),.int .i64 ((t:Int)+1)] 3)).alloc (.cells #[.slice (some ⟨wr.heap.size,0,none⟩) 2 2] 85)):=by (repeat (first | exact rfl | exact Below.refl _ _ | (with_reducible refine Below.drew ?_) | (with_reducible refine Below.drewN ?_ _) | (with_reducible refine Below.alloc ?_ ?_ _) | (with_reducible refine Below.setCell ?_ ?_ _) | (show _<=_;focus (first | omega | (simp;done) | (simp;omega)))))
       have HU:=Lib.hid (And.intro hsz (And.intro hz1 (And.intro q5 hW)))
       clear hsz hz1 q5 hW
       go_wp2_with (refine app_OO ?_ (.tmp 50) (.tmp 55) ?_ w.heap.size (.slice (some ⟨g0,0,none⟩) B.length oc) (rows B) vs wr (.slice (some ⟨wr.heap.size,0,none⟩) 2 2) [(t:Int),(t:Int)+1] (wr.heap.size+1) ?_ ?_ ?_ ?_ ?_ ?_ ?_ ?_ ?_ ?_ w.heap.size w1.heap.size w1 ?_ ?_ ?_ ?_;rfl;rfl;rfl;exact hown;exact HU.out.2.2.2;exact ((IO.lit2 wr HU.out.1 _ _).alloc _);(intro r e;simp [Value.ownBlock] at e;omega);rfl;rfl;exact (heap_new2' _ _ _);exact HU.out.2.2.1;exact (Nat.le_trans HU.out.1 HU.out.2.2.2.size);exact hsep.out;exact (hmid.out.below HU.out.2.2.2 HU.out.2.1);exact (Nat.le_trans HU.out.2.1 HU.out.2.2.2.size);intro g7 cap w7 hown7 hb70 hsep7 hmid7)
       have hz7:=hb70.size
       obtain ⟨hsz,hz1,-,hW⟩:=HU.out
       have hW2:=hW.size
       go_roundw
       case rel =>
        refine ⟨t+1,_,by omega,by go_num,by rw [E.out,E2.out];exact hown7,hsep7,hmid7,by omega,?_⟩
        exact (hb.trans (hW.mono hsz)).trans hb70
       case measure=>simp [intOf];omega
   ·have hlf:¬ ((t:Int) < 200):=by omega
    go_wp2_with fail
    go_ret
    refine ⟨_,rfl,⟨vs,?_⟩,hb⟩
    rw [HV.out,show (200:Nat)=t by omega]
    exact hown
 ·have hno:cOk L=false:=by simpa using h
  have HV:=Lib.hid (busyP_no hno)
  have H:=Lib.hid hno;clear h hno
  go_enter Tryz.func71,Tryz.ntmps71
  go_wp2_with fail
  have hb0:Below w.heap.size w (w.alloc (.cells #[] 85)):=by (repeat (first | exact rfl | exact Below.refl _ _ | (with_reducible refine Below.drew ?_) | (with_reducible refine Below.drewN ?_ _) | (with_reducible refine Below.alloc ?_ ?_ _) | (with_reducible refine Below.setCell ?_ ?_ _) | (show _<=_;focus (first | omega | (simp;done) | (simp;omega)))))
  refine (c_sCustomersOk L A c _ ((hA.below hb0).more hb0.size) hn).mono ?_
  rintro e w5 ⟨rfl,hb5⟩
  rw [H.out]
  have hbx:=hb0.trans (hb5.mono hb0.size)
  have own0:=(IOO.empty w (Nat.le_refl _)).below hb5 (Nat.le_refl _)
  go_wp2_with fail
  go_ret
  exact ⟨_,rfl,⟨_,by rw [HV.out];exact own0⟩,hbx⟩
end
section
attribute [local go_sem ↓] Go.wp_at_zero Go.wp_at_succ
theorem busyP_len (L:List (Int×Int)):(busyP L).length<=200:=by
 unfold busyP;split
 ·exact busyT_len L 200
 ·simp
end
end Go.Proofs.YthpccmkagikhjaaGreatDoor

import Derived.Test.YticccnkanihpnaaDoorQExactReadDeed1
import Derived.Test.YticccnkanihpnaaDoorQExactReadDeed2
import Derived.Test.YticccnkanihpnaaDoorQExactReadDeed3
import Derived.Lib.SplitLaws
import Derived.Lib.AtoiTie
import Derived.WalkKit
import Derived.Laws.CopyRow
import Derived.Laws.IdiomCopy
import Derived.Deep.Upon
import Derived.OwnWalk
import Derived.Laws.Tables
namespace Go.Proofs.YticccnkanihpnaaDoor
set_option linter.unusedVariables false
open Go.RowKit
theorem splitK_cut (c:UInt8):∀ (m:Nat) (s:List UInt8),s.length<=m->Lib.splitK [c] 0 (Lib.count s [c]) s=cutL c s:=by
 intro m
 induction m with
 | zero =>
  intro s h
  have:s=[]:=List.eq_nil_of_length_eq_zero (by omega)
  subst this
  rw [cutL_none (by simp),Lib.count_miss (by simp [Lib.index])]
  rfl
 | succ m ih =>
  intro s h
  rcases split_at c s with h1 | ⟨a,b,rfl,ha⟩
  ·rw [cutL_none h1,Lib.count_miss (indexC_none h1)];rfl
  ·have hi:=indexC_at b ha
   have e:(a++c::b).drop (a.length+[c].length)=b:=by simp
   have e2:(a++c::b).take (a.length+0)=a:=by simp
   rw [cutL_at b ha,Lib.count_hit (by simp) hi,e,Nat.add_comm,Lib.splitK,if_neg (by rw [hi];simp),hi,Int.toNat_natCast,e,e2,ih b (by simp at h;omega)]
theorem splitB_cut (c:UInt8) (s:ByteArray):(Lib.splitB ⟨#[c]⟩ 0 (Lib.countB s ⟨#[c]⟩) s).map (·.data.toList)=cutL c s.data.toList:=by
 rw [Lib.splitB_data]
 exact splitK_cut c _ _ (Nat.le_refl _)
theorem splitB_len (c:UInt8) (s:ByteArray):Lib.countB s ⟨#[c]⟩+1=(cutL c s.data.toList).length:=by
 rw [<- splitB_cut,List.length_map,Lib.splitB_all _ (by simp [ByteArray.size]) 0 _ s rfl]
def uncut (c:UInt8):List (List UInt8)->List UInt8
 | []=>[]
 | [x]=>x
 | x::y::r=>x++c::uncut c (y::r)
theorem cutL_ne (c:UInt8) (s:List UInt8):cutL c s≠[]:=by simp [cutL]
theorem uncut_cons (c:UInt8) (x:List UInt8) {r:List (List UInt8)} (h:r≠[]):uncut c (x::r)=x++c::uncut c r:=by
 cases r with
 | nil=>exact absurd rfl h
 | cons y r=>rfl
theorem uncut_cut (c:UInt8):∀ (m:Nat) (s:List UInt8),s.length<=m->uncut c (cutL c s)=s:=by
 intro m
 induction m with
 | zero =>
  intro s h
  have:s=[]:=List.eq_nil_of_length_eq_zero (by omega)
  subst this
  rw [cutL_none (by simp)];rfl
 | succ m ih =>
  intro s h
  rcases split_at c s with h1 | ⟨a,b,rfl,ha⟩
  ·rw [cutL_none h1];rfl
  ·rw [cutL_at b ha,uncut_cons c a (cutL_ne c b),ih b (by simp at h;omega)]
def dig2 (l:List UInt8):Bool:=digOk l && decide (l.length<=2)
theorem dig2_num {l:List UInt8} (h:dig2 l=true):numL (valN l)=l∧valN l<=99:=by
 simp only [dig2,Bool.and_eq_true,decide_eq_true_eq] at h
 obtain ⟨h1,h2,h3⟩:=digOk_parts h.1
 have e:=num_of _ l rfl (by intro e;subst e;simp at h1) h3 h2
 refine ⟨e,Nat.le_of_not_lt fun hgt=>?_⟩
 have hl:=h.2
 rw [<- e,numL_more (by omega),numL_more (by omega)] at hl
 have:=numL_ne (valN l / 10 / 10)
 simp at hl
 rw [hl] at this;simp at this
theorem num_dig2 {n:Nat} (h:n<=99):dig2 (numL n)=true:=by
 have h1:=numL_ne n
 have h2:=numL_len 1 n (by simpa using show n < 100 by omega)
 have h4:=numL_lead n
 have:digOk (numL n)=true:=by
  simp only [digOk,Bool.and_eq_true,decide_eq_true_eq,numL_all n,and_true,Bool.not_eq_true',Bool.and_eq_false_iff,decide_eq_false_iff_not]
  refine ⟨by omega,?_⟩
  by_cases h5:1 < (numL n).length
  ·right
   have:=h4 h5
   cases hx:(numL n).head? with
   | none=>rfl
   | some c=>rw [hx] at this;simpa using this
  ·exact .inl h5
 simp [dig2,this];omega
def wordJ:Nat->List UInt8
 | 0=>wCome
 | 1=>wGo
 | 2=>wNeed
 | 3=>wLater
 | _=>wBack
def numJ:Nat->Nat
 | 0=>2
 | 1=>0
 | 2=>1
 | 3=>1
 | _=>0
def deedJ (j:Nat) (r:List (List UInt8)):DV:=⟨j,(valN (r.getD 0 []):Int),(valN (r.getD 1 []):Int)⟩
theorem wordJ_inj {i j:Nat} (hi:i < 5) (hj:j < 5) (h:wordJ i=wordJ j):i=j:=by
 have hi':i=0∨i=1∨i=2∨i=3∨i=4:=by omega
 have hj':j=0∨j=1∨j=2∨j=3∨j=4:=by omega
 rcases hi' with rfl | rfl | rfl | rfl | rfl <;> rcases hj' with rfl | rfl | rfl | rfl | rfl <;> first | rfl | (exact absurd h (by decide))
theorem deed_cut {d:DV} (h:deedL d≠[]):∃ j r,j < 5∧cutL 32 (deedL d)=wordJ j::r∧r.length=numJ j∧r.all dig2=true∧d=deedJ j r:=by
 rcases deed_ways d with h0 | ⟨h1,h2,h3,e⟩ | ⟨h1,h2,h3,e⟩ | ⟨h1,h2,h3,e⟩ | ⟨h1,e⟩ | ⟨h1,e⟩
 ·exact absurd h0 h
 ·refine ⟨0,[numL d.a.toNat,numL d.b.toNat],by omega,by rw [e,cut_three _ _ _ (by decide) (numL_no32 _) (numL_no32 _)];rfl,rfl,?_,?_⟩
  ·simp [num_dig2 (show d.a.toNat<=99 by omega),num_dig2 (show d.b.toNat<=99 by omega)]
  ·obtain ⟨k,a,b⟩:=d
   simp only at h1 h2 h3
   simp [deedJ,numL_val];omega
 ·refine ⟨2,[numL d.a.toNat],by omega,by rw [e,cut_two _ _ (by decide) (numL_no32 _)];rfl,rfl,?_,?_⟩
  ·simp [num_dig2 (show d.a.toNat<=99 by omega)]
  ·obtain ⟨k,a,b⟩:=d
   simp only at h1 h2 h3
   have e0:(valN ([numL a.toNat].getD 1 []):Int)=0:=rfl
   have e1:(valN ([numL a.toNat].getD 0 []):Int)=a:=by rw [List.getD_cons_zero,numL_val];omega
   simp only [deedJ,e0,e1,DV.mk.injEq];exact ⟨h1,trivial,h3⟩
 ·refine ⟨3,[numL d.a.toNat],by omega,by rw [e,cut_two _ _ (by decide) (numL_no32 _)];rfl,rfl,?_,?_⟩
  ·simp [num_dig2 (show d.a.toNat<=99 by omega)]
  ·obtain ⟨k,a,b⟩:=d
   simp only at h1 h2 h3
   have e0:(valN ([numL a.toNat].getD 1 []):Int)=0:=rfl
   have e1:(valN ([numL a.toNat].getD 0 []):Int)=a:=by rw [List.getD_cons_zero,numL_val];omega
   simp only [deedJ,e0,e1,DV.mk.injEq];exact ⟨h1,trivial,h3⟩
 ·exact ⟨1,[],by omega,by rw [e,cutL_none (by decide)];rfl,rfl,rfl,by rw [h1];rfl⟩
 ·exact ⟨4,[],by omega,by rw [e,cutL_none (by decide)];rfl,rfl,rfl,by rw [h1];rfl⟩
theorem deed_of {s:List UInt8} {j:Nat} {r:List (List UInt8)} (hj:j < 5) (hc:cutL 32 s=wordJ j::r) (hl:r.length=numJ j) (hd:r.all dig2=true):deedL (deedJ j r)=s∧s≠[]:=by
 have hs:=uncut_cut 32 _ s (Nat.le_refl _)
 rw [hc] at hs
 have hj':j=0∨j=1∨j=2∨j=3∨j=4:=by omega
 rcases hj' with rfl | rfl | rfl | rfl | rfl
 ·obtain ⟨x,y,rfl⟩:∃ x y,r=[x,y]:=by
   match r,hl with
   | [x,y],_=>exact ⟨x,y,rfl⟩
  simp only [List.all_cons,List.all_nil,Bool.and_eq_true,and_true] at hd
  obtain ⟨e1,l1⟩:=dig2_num hd.1
  obtain ⟨e2,l2⟩:=dig2_num hd.2
  rw [<- hs]
  refine ⟨?_,by simp [uncut,wordJ,wCome]⟩
  simp only [deedJ,deedL,List.getD_cons_zero,List.getD_cons_succ]
  rw [if_pos ⟨rfl,by omega,by omega⟩,Int.toNat_natCast,Int.toNat_natCast,e1,e2]
  simp [uncut,wordJ]
 ·obtain rfl:r=[]:=List.eq_nil_of_length_eq_zero hl
  rw [<- hs]
  exact ⟨by decide,by decide⟩
 ·obtain ⟨x,rfl⟩:∃ x,r=[x]:=by
   match r,hl with
   | [x],_=>exact ⟨x,rfl⟩
  simp only [List.all_cons,List.all_nil,Bool.and_true] at hd
  obtain ⟨e1,l1⟩:=dig2_num hd
  rw [<- hs]
  refine ⟨?_,by simp [uncut,wordJ,wNeed]⟩
  have e0:(valN ([x].getD 1 []):Int)=0:=rfl
  simp only [deedJ,e0,List.getD_cons_zero]
  rw [deedL,if_neg (by simp),if_pos ⟨rfl,by simp only;omega,rfl⟩,Int.toNat_natCast,e1]
  simp [uncut,wordJ]
 ·obtain ⟨x,rfl⟩:∃ x,r=[x]:=by
   match r,hl with
   | [x],_=>exact ⟨x,rfl⟩
  simp only [List.all_cons,List.all_nil,Bool.and_true] at hd
  obtain ⟨e1,l1⟩:=dig2_num hd
  rw [<- hs]
  refine ⟨?_,by simp [uncut,wordJ,wLater]⟩
  have e0:(valN ([x].getD 1 []):Int)=0:=rfl
  simp only [deedJ,e0,List.getD_cons_zero]
  rw [deedL,if_neg (by simp),if_neg (by simp),if_pos ⟨rfl,by simp only;omega,rfl⟩,Int.toNat_natCast,e1]
  simp [uncut,wordJ]
 ·obtain rfl:r=[]:=List.eq_nil_of_length_eq_zero hl
  rw [<- hs]
  exact ⟨by decide,by decide⟩
theorem read_yes {s:List UInt8} {j:Nat} {r:List (List UInt8)} (hj:j < 5) (hc:cutL 32 s=wordJ j::r) (hl:r.length=numJ j) (hd:r.all dig2=true):readD s=some (deedJ j r):=by
 obtain ⟨e,hne⟩:=deed_of hj hc hl hd
 have:=deed_read (deedJ j r) (by rw [e];exact hne)
 rwa [e] at this
theorem read_bad {s:List UInt8} {j:Nat} {r:List (List UInt8)} (hj:j < 5) (hc:cutL 32 s=wordJ j::r) (hn:¬ (r.length=numJ j∧r.all dig2=true)):readD s=none:=by
 cases h:readD s with
 | none=>rfl
 | some d =>
  obtain ⟨e,hne⟩:=read_text h
  subst e
  obtain ⟨i,r',hi,hc',hl',hd',-⟩:=deed_cut hne
  rw [hc] at hc'
  injection hc' with e1 e2
  have:=wordJ_inj hj hi e1
  subst this e2
  exact absurd ⟨hl',hd'⟩ hn
theorem read_none {s x:List UInt8} {r:List (List UInt8)} (hc:cutL 32 s=x::r) (hn:∀ j,j < 5->x≠wordJ j):readD s=none:=by
 cases h:readD s with
 | none=>rfl
 | some d =>
  obtain ⟨e,hne⟩:=read_text h
  subst e
  obtain ⟨i,r',hi,hc',-,-,-⟩:=deed_cut hne
  rw [hc] at hc'
  injection hc' with e1 e2
  exact absurd e1 (hn i hi)
theorem cut_cons (c:UInt8) (s:List UInt8):∃ x r,cutL c s=x::r:=by
 cases h:cutL c s with
 | nil=>exact absurd h (cutL_ne c s)
 | cons x r=>exact ⟨x,r,rfl⟩
theorem cut_len {c:UInt8} {s:List UInt8}:∀ x ∈ cutL c s,x.length<=s.length:=by
 have key:∀ (ws:List (List UInt8)) (x:List UInt8),x ∈ ws->x.length<=(uncut c ws).length:=by
  intro ws
  induction ws with
  | nil=>intro x h;cases h
  | cons y r ih =>
   intro x h
   cases r with
   | nil=>rcases List.mem_cons.1 h with rfl | h
          ·exact Nat.le_refl _
          ·cases h
   | cons z r =>
    rw [uncut_cons c y (by simp),List.length_append,List.length_cons]
    rcases List.mem_cons.1 h with rfl | h
    ·omega
    ·have:=ih x h;omega
 intro x h
 have:=key _ x h
 rwa [uncut_cut c _ s (Nat.le_refl _)] at this
end Go.Proofs.YticccnkanihpnaaDoor
namespace Go.Proofs.YticccnkanihpnaaDoor
set_option linter.unusedVariables false
open Go.RowKit
attribute [local go_sem ↓] Go.wp_at_zero Go.wp_at_succ
theorem atoi_bd {l:List UInt8} {v:Int} (h:Lib.atoiAll l=.ok v):-9223372036854775808<=v∧v<=9223372036854775807:=Lib.atoiAll_bounds h
theorem num_read {l:List UInt8} (h6:l.length<=6):(digOk l=true->Lib.atoiAll l=.ok (valN l:Int)∧Lib.itoa (valN l:Int)=l)∧(digOk l=false->∀ v,Lib.atoiAll l=.ok v->0<=v->Lib.itoa v≠l):=by
 rw [Lib.atoiAll_short l (by omega)]
 refine ⟨fun h=>?_,fun h v hv h0 he=>?_⟩
 ·obtain ⟨h1,h2,h3⟩:=digOk_parts h
  have hne:l≠[]:=fun e=>by subst e;simp at h1
  rw [atoi_val hne h3]
  exact ⟨rfl,by rw [itoa_num];exact num_of _ l rfl hne h3 h2⟩
 ·obtain ⟨n,rfl⟩:=Int.eq_ofNat_of_zero_le h0
  rw [itoa_num] at he
  have hlt:n < 1000000:=by
   have hl:(numL n).length<=6:=by rw [he];exact h6
   refine Nat.lt_of_not_le fun hge=>?_
   rw [numL_more (by omega),numL_more (by omega),numL_more (by omega),numL_more (by omega),numL_more (by omega),numL_more (by omega)] at hl
   have:=numL_ne (n / 10 / 10 / 10 / 10 / 10 / 10)
   simp at hl
   exact absurd hl (by intro e;rw [e] at this;simp at this)
  have:=digL_num hlt
  rw [he,digL,if_neg (by simp [h])] at this
  omega
def okN (l:List UInt8) (d:Nat):Bool:=digOk l && decide (l.length<=d)
def numV (l:List UInt8) (d:Nat):Value:=.tuple #[.int .i64 (if okN l d=true then (valN l:Int) else 0),.bool (okN l d)]
theorem numV_no {l:List UInt8} {d:Nat} (h:okN l d=false):numV l d=.tuple #[.int .i64 0,.bool false]:=by simp [numV,h]
theorem numV_yes {l:List UInt8} {d:Nat} (h:okN l d=true):numV l d=.tuple #[.int .i64 (valN l:Int),.bool true]:=by simp [numV,h]
set_option maxHeartbeats 1000000 in
theorem c_readNumber (l:List UInt8) (d:Nat) (hd6:d<=6) (hl:l.length<=100000000) (w:World) (hV:LV w w.heap.size) :
  Calls Tryd.prog 59 #[.string (bs l),.int .i64 (d:Int)] w fun e w'=>e=.returned (numV l d)∧Below w.heap.size w w':=by
 have hsz:=bs_size l
 by_cases h6:1<=l.length∧l.length<=d
 ·have q1:decide (1<=((bs l).size:Int)∧((bs l).size:Int)<=(d:Int))=true:=decide_eq_true (by rw [hsz];omega)
  have hdk:okN l d=digOk l:=by simp [okN,h6.2]
  obtain ⟨R1,R2⟩:=num_read (l:=l) (by omega)
  have HA:=Lib.hid (c_atoi l (by omega) w hV)
  have HB:=Lib.hid (fun v h=>atoi_bd (l:=l) (v:=v) h)
  have HI:=Lib.hid (fun (n:Int) (W:World) (h:-9223372036854775808<=n∧n<=9223372036854775807) (hb:Below w.heap.size w W)=>Tryd.strconv_Itoa n h.1 h.2 W (hV.at hb).1.2)
  have HR1:=Lib.hid R1
  have HR2:=Lib.hid R2
  have HQ:=Lib.hid q1
  clear R1 R2 hV hsz q1
  go_enter Tryd.func59,Tryd.ntmps59
  go_wp2_with fail
  refine (c_within _ _ _ _).mono ?_
  rintro e w' ⟨rfl,rfl⟩
  rw [HQ.out]
  go_wp2_with fail
  refine HA.out.mono ?_
  rintro e w1 ⟨(⟨v,hv,rfl⟩ | ⟨hn,v,b,rfl⟩),hb1⟩
  ·have hbd:=HB.out v hv
   have HI1:=Lib.hid (HI.out v w1 hbd hb1)
   have HX:=Lib.hid (fun w2 (h:Below w1.heap.size w1 w2)=>hb1.trans (h.mono hb1.size))
   have heq:∀ x:List UInt8,(x == (bs l).toList)=decide (x=l):=fun x=>by
    rw [bs_list]
    cases h:(x == l) with
    | true=>rw [decide_eq_true (eq_of_beq h)]
    | false=>rw [decide_eq_false (fun e=>by rw [e] at h;simp at h)]
   have hne:=heq (Lib.itoa v)
   by_cases h0:v < 0
   ·have hd:okN l d=false:=by
     rw [hdk]
     cases h:digOk l with
     | false=>rfl
     | true=>have:=(HR1.out h).1;rw [hv] at this;injection this with e;omega
    have HD:=Lib.hid (numV_no hd)
    clear hbd heq hd hne hdk
    go_wp2_with fail
    go_ret2
    exact ⟨by rw [HD.out];rfl,hb1⟩
   ·by_cases hI:Lib.itoa v=l
    ·rw [decide_eq_true hI] at hne
     have hd:okN l d=true:=by
      rw [hdk]
      cases h:digOk l with
      | true=>rfl
      | false=>exact absurd hI (HR2.out h v hv (by omega))
     have hvl:v=(valN l:Int):=by have:=(HR1.out (by rw [<- hdk];exact hd)).1;rw [hv] at this;injection this
     have HD:=Lib.hid (show numV l d=.tuple #[.int .i64 v,.bool true] by rw [numV_yes hd,hvl])
     clear hbd hb1 heq hI hd hvl hdk
     go_wp2_with fail
     refine HI1.out.mono ?_
     rintro e w2 ⟨rfl,k,os,hw2⟩
     have hb2:Below w1.heap.size w1 w2:=by rw [hw2];exact below_grow w1 k os
     clear hw2
     go_wp2_with fail
     go_ret2
     exact ⟨by rw [HD.out];rfl,HX.out _ hb2⟩
    ·rw [decide_eq_false hI] at hne
     have hd:okN l d=false:=by
      rw [hdk]
      cases h:digOk l with
      | false=>rfl
      | true =>
       have h2:=HR1.out h
       have e:v=(valN l:Int):=by have:=h2.1;rw [hv] at this;injection this
       exact absurd (by rw [e];exact h2.2) hI
     have HD:=Lib.hid (numV_no hd)
     clear hbd hb1 heq hI hd hdk
     go_wp2_with fail
     refine HI1.out.mono ?_
     rintro e w2 ⟨rfl,k,os,hw2⟩
     have hb2:Below w1.heap.size w1 w2:=by rw [hw2];exact below_grow w1 k os
     clear hw2
     go_wp2_with fail
     go_ret2
     exact ⟨by rw [HD.out];rfl,HX.out _ hb2⟩
  ·have hd:okN l d=false:=by
    rw [hdk]
    cases h:digOk l with
    | false=>rfl
    | true=>exact absurd (HR1.out h).1 (hn _)
   have HD:=Lib.hid (numV_no hd)
   clear hd hn hdk
   go_wp2_with fail
   go_ret2
   exact ⟨by rw [HD.out];rfl,hb1⟩
 ·have q1:decide (1<=((bs l).size:Int)∧((bs l).size:Int)<=(d:Int))=false:=decide_eq_false (by rw [hsz];omega)
  have hd:okN l d=false:=by
   cases h:okN l d with
   | false=>rfl
   | true =>
    simp only [okN,Bool.and_eq_true,decide_eq_true_eq] at h
    have:=(digOk_parts h.1).1
    omega
  have HD:=Lib.hid (numV_no hd)
  have HQ:=Lib.hid q1
  clear q1 hd h6 hsz
  go_enter Tryd.func59,Tryd.ntmps59
  go_wp2_with fail
  refine (c_within _ _ _ _).mono ?_
  rintro e w' ⟨rfl,rfl⟩
  rw [HQ.out]
  go_wp2_with fail
  go_ret2
  exact ⟨by rw [HD.out];rfl,Below.refl _ _⟩
end Go.Proofs.YticccnkanihpnaaDoor
namespace Go.Proofs.YticccnkanihpnaaDoor
set_option linter.unusedVariables false
open Go.RowKit
theorem Ss.take {w:World} {B:Nat} {A:Option Addr} {L:List (List UInt8)} (h:Ss w B A L) (m:Nat):Ss w B A (L.take m):=by
 intro hn
 rw [List.length_take] at hn
 obtain ⟨b,off,rfl,hlt,hc⟩:=h (by omega)
 refine ⟨b,off,rfl,hlt,fun k hk=>?_⟩
 rw [List.length_take] at hk
 have e:ZS (L.take m) k=ZS L k:=by simp [ZS,List.getD_eq_getElem?_getD,List.getElem?_take_of_lt (show k < m by omega)]
 rw [e]
 exact hc k (by omega)
theorem Ss.drop {w:World} {B b off:Nat} {L:List (List UInt8)} (h:Ss w B (some ⟨b,off,none⟩) L) (m:Nat):Ss w B (some ⟨b,off+m,none⟩) (L.drop m):=by
 intro hn
 rw [List.length_drop] at hn
 obtain ⟨b2,off2,e,hlt,hc⟩:=h (by omega)
 injection e with e
 injection e with e1 e2 _
 subst e1 e2
 refine ⟨b,off+m,rfl,hlt,fun k hk=>?_⟩
 rw [List.length_drop] at hk
 have e:ZS (L.drop m) k=ZS L (m+k):=by simp [ZS,List.getD_eq_getElem?_getD]
 rw [e,show off+m+k=off+(m+k) by omega]
 exact hc (m+k) (by omega)
section
variable {w:World}
end
end Go.Proofs.YticccnkanihpnaaDoor
namespace Go.Proofs.YticccnkanihpnaaDoor
set_option linter.unusedVariables false
open Go.RowKit
attribute [local go_sem ↓] Go.wp_at_zero Go.wp_at_succ
theorem split_bs (c:UInt8) (l:List UInt8):Lib.splitB ⟨#[c]⟩ 0 (Lib.countB (bs l) ⟨#[c]⟩) (bs l)=(cutL c l).map bs:=by
 rw [show cutL c l=cutL c (bs l).data.toList from rfl,<- splitB_cut,List.map_map]
 exact (List.map_id _).symm
theorem ZS_get {xs:List (List UInt8)} {k:Nat} (h:k < xs.length):ZS xs k=xs[k]:=by simp [ZS,h]
theorem c_split (l:List UInt8) (hl:l.length<=100000000) (w:World) (hV:LV w w.heap.size) :
  Calls Tryd.prog 40 #[.string (bs l),.string ⟨#[32]⟩] w fun e w'=>e=.returned (.slice (some ⟨w.heap.size,0,none⟩) (cutL 32 l).length (cutL 32 l).length)∧Ss w' w'.heap.size (some ⟨w.heap.size,0,none⟩) (cutL 32 l)∧Below w.heap.size w w':=by
 obtain ⟨-,m,hm⟩:=hV.2.2
 refine (Tryd.strings_Split (bs l) ⟨#[32]⟩ m w (by rw [bs_size];omega) hm (by decide)).mono ?_
 rintro e w' ⟨he,hw⟩
 have hn:Lib.countB (bs l) ⟨#[32]⟩+1=(cutL 32 l).length:=splitB_len 32 (bs l)
 rw [hn] at he
 rw [split_bs] at hw
 refine ⟨he,?_,by rw [hw];exact (Below.refl _ w).alloc (Nat.le_refl _) _⟩
 intro hp
 refine ⟨w.heap.size,0,rfl,by rw [hw];simp,fun k hk=>?_⟩
 rw [hw,Nat.zero_add,cell_of_row _ w.heap.size k _ _ _ (heap_alloc_new _ _)]
 simp [ZS_get hk,hk]
def valsN (ws:List (List UInt8)):List Int:=ws.map fun x=>(valN x:Int)
def namesOk (ws:List (List UInt8)) (n:Nat):Bool:=decide (ws.length=n) && ws.all dig2
theorem valsN_take {ws:List (List UInt8)} {k:Nat} (h:k < ws.length):valsN (ws.take (k+1))=valsN (ws.take k)++[(valN (ZS ws k):Int)]:=by
 rw [ZS_get h,<- List.take_append_getElem h,valsN,valsN,List.map_append];rfl
theorem all2_bad {ws:List (List UInt8)} {k:Nat} (hk:k < ws.length) (h:dig2 (ZS ws k)=false):ws.all dig2=false:=by
 cases e:ws.all dig2 with
 | false=>rfl
 | true=>have:=List.all_eq_true.1 e _ (List.getElem_mem hk);rw [<- ZS_get hk,h] at this;cases this
theorem all2_to {ws:List (List UInt8)} (h:∀ k,k < ws.length->dig2 (ZS ws k)=true):ws.all dig2=true:=List.all_eq_true.2 (fun x hx=>by
 obtain ⟨k,hk,rfl⟩:=List.getElem_of_mem hx
 rw [<- ZS_get hk];exact h k hk)
set_option maxHeartbeats 4000000 in
theorem c_readNumbers (ws:List (List UInt8)) (W:ByteArray) (n:Nat) (A:Option Addr) (c:Nat) (w:World) (hA:Ss w w.heap.size A ws) (hn:ws.length<=1000000000) (hl:∀ k,k < ws.length->(ZS ws k).length<=100000000) (hV:LV w w.heap.size) :
  Calls Tryd.prog 42 #[.agg #[.string W,.int .i64 (n:Int)],.slice A ws.length c] w fun e w'=>(∃ v,e=.returned (.tuple #[v,.bool (namesOk ws n)])∧(namesOk ws n=true->IO w' w.heap.size v (valsN ws)))∧Below w.heap.size w w':=by
 by_cases hq:ws.length=n
 ·subst hq
  have HNo:=Lib.hid (show ws.all dig2=false->namesOk ws ws.length=false from fun h=>by simp [namesOk,h])
  have HYes:=Lib.hid (show ws.all dig2=true->namesOk ws ws.length=true from fun h=>by simp [namesOk,h])
  have HA:=Lib.hid hA
  have HLn:=Lib.hid hl
  have HV:=Lib.hid hV
  have p0:((ws.length:Int) != (ws.length:Int))=false:=by simp
  have hb0:Below w.heap.size w (w.alloc (.cells #[.string W,.int .i64 (ws.length:Int)] 54)):=by (repeat (first | exact rfl | exact Below.refl _ _ | (with_reducible refine Below.drew ?_) | (with_reducible refine Below.drewN ?_ _) | (with_reducible refine Below.alloc ?_ ?_ _) | (with_reducible refine Below.setCell ?_ ?_ _) | (show _<=_;focus (first | omega | (simp;done) | (simp;omega)))))
  clear hA hl hV
  go_enter Tryd.func42,Tryd.ntmps42
  go_wp2_with fail
  go_loopw [6,18] (fun o i wr=>∃ k:Nat,k<=ws.length∧i=.int .i64 k∧Hid (∀ j,j < k->dig2 (ZS ws j)=true)∧IO wr w.heap.size o (valsN (ws.take k))∧Below w.heap.size w wr)
   (fun _ i _=>ws.length - (intOf i).toNat)
  case atStart=>exact ⟨0,by omega,rfl,Lib.hid (fun j hj=>by omega),IO.nil _ _,hb0⟩
  case round =>
   obtain ⟨k,hk,rfl,HN,hown,hb⟩:=hrel
   have hsz:=hb.size
   by_cases hlt:k < ws.length
   ·obtain ⟨b,off,rfl,hlb,hc⟩:=HA.out (by omega)
    have c1:=(hb.cell (p:=⟨b,off+k,none⟩) hlb).trans (hc k hlt)
    have HK:=Lib.hid (c_readNumber (ZS ws k) 2 (by omega) (HLn.out k hlt) wr (HV.out.at hb))
    have hvl:(valsN (ws.take k)).length=k:=by rw [valsN,List.length_map,List.length_take];omega
    have HT:=Lib.hid (valsN_take hlt)
    have HOwn:=Lib.hid hown
    clear hc hown
    cases hz:dig2 (ZS ws k) with
    | false =>
     have HB:=Lib.hid (HNo.out (all2_bad hlt hz))
     have HZ:=Lib.hid (numV_no (l:=ZS ws k) (d:=2) hz)
     clear hz
     go_wp2_with fail
     refine HK.out.mono ?_
     rintro e w5 ⟨rfl,hb5⟩
     rw [HZ.out]
     go_wp2_with fail
     go_ret2
     exact ⟨⟨.slice none 0 0,by rw [HB.out];rfl,fun h=>by rw [HB.out] at h;cases h⟩,hb.trans (hb5.mono hsz)⟩
    | true =>
     have HB:=Lib.hid (show ∀ j,j < k+1->dig2 (ZS ws j)=true from fun j hj=>by
      rcases Nat.lt_succ_iff_lt_or_eq.1 hj with h | rfl
      ·exact HN.out j h
      ·exact hz)
     have HZ:=Lib.hid (numV_yes (l:=ZS ws k) (d:=2) hz)
     clear hz
     go_wp2_with fail
     refine HK.out.mono ?_
     rintro e w5 ⟨rfl,hb5⟩
     rw [HZ.out]
     have hs5:=hb5.size
     have o5:=HOwn.out.below hb5 (Nat.le_refl _)
     have hw5:=hb.trans (hb5.mono hsz)
     go_wp2_with (refine app_I (by rfl) (.tmp 29) (.tmp 31) (by rfl) w.heap.size u6 (valsN (ws.take k)) (valN (ZS ws k):Int) w5.heap.size (by rfl) (o5.alloc _) (by rfl) (heap_alloc_new _ _) (by rw [hvl];omega) (by simp;omega) ?_;intro g cap w6 o6 hgr6 hb6)
     rw [hvl] at o6
     go_roundw
     case rel=>exact ⟨k+1,by omega,by go_num,HB,by rw [HT.out];exact o6,hw5.trans (((Below.refl _ w5).alloc (by omega) _).trans hb6)⟩
     case measure=>simp [intOf];omega
   ·obtain rfl:k=ws.length:=by omega
    rw [List.take_length] at hown
    have HB:=Lib.hid (HYes.out (all2_to HN.out))
    go_wp2_with fail
    go_ret2
    exact ⟨⟨_,by rw [HB.out];rfl,fun _=>hown⟩,hb⟩
 ·have p1:((ws.length:Int) == (n:Int))=false:=beq_eq_false_iff_ne.2 (by omega)
  have p2:((ws.length:Int) != (n:Int))=true:=by simp [bne,p1]
  have HV:=Lib.hid (show namesOk ws n=false by simp [namesOk,hq])
  go_enter Tryd.func42,Tryd.ntmps42
  have hb0:Below w.heap.size w (w.alloc (.cells #[.string W,.int .i64 (n:Int)] 54)):=by (repeat (first | exact rfl | exact Below.refl _ _ | (with_reducible refine Below.drew ?_) | (with_reducible refine Below.drewN ?_ _) | (with_reducible refine Below.alloc ?_ ?_ _) | (with_reducible refine Below.setCell ?_ ?_ _) | (show _<=_;focus (first | omega | (simp;done) | (simp;omega)))))
  go_wp2_with fail
  go_ret2
  exact ⟨⟨.slice none 0 0,by rw [HV.out];rfl,fun h=>by rw [HV.out] at h;cases h⟩,hb0⟩
theorem setRow_below {w W:World} {B g:Nat} (h:Below B w W) (hg:B<=g) (cs:Array Value):Below B w (W.setRow g cs) :=
 ⟨h.os,h.tape,h.output,by rw [setRow_size];exact h.size,fun k hk=>(setRow_other _ _ _ _ (by omega)).trans (h.block k hk)⟩
theorem put3 {w:World} {R:Nat} {t:TypeId} {p q r:Value} (x y z:Value) (h:w.heap[R]?=some (.cells #[p,q,r] t (0,0))) :
  (((w.setCell ⟨R,0,none⟩ x).setCell ⟨R,1,none⟩ y).setCell ⟨R,2,none⟩ z).cell? ⟨R,0,none⟩=some x∧(((w.setCell ⟨R,0,none⟩ x).setCell ⟨R,1,none⟩ y).setCell ⟨R,2,none⟩ z).cell? ⟨R,1,none⟩=some y∧(((w.setCell ⟨R,0,none⟩ x).setCell ⟨R,1,none⟩ y).setCell ⟨R,2,none⟩ z).cell? ⟨R,2,none⟩=some z:=by
 obtain ⟨hlt,he⟩:=Array.getElem?_eq_some_iff.1 h
 have b:(((w.setCell ⟨R,0,none⟩ x).setCell ⟨R,1,none⟩ y).setCell ⟨R,2,none⟩ z).heap[R]?=some (.cells #[x,y,z] t (0,0)):=by
  rw [Array.getElem?_eq_getElem (by simpa [World.setCell] using hlt)]
  simp [World.setCell,Array.getElem_modify,he]
 exact ⟨cell_of_row _ R 0 _ _ _ b,cell_of_row _ R 1 _ _ _ b,cell_of_row _ R 2 _ _ _ b⟩
theorem infoI12:(Tryd.prog.info? 3).map (·.size)=some 1:=by kernel_rfl
set_option maxRecDepth 8000 in
set_option maxHeartbeats 2000000 in
theorem c_deedOf (k:Int) (xs:List Int) (A:Option Addr) (c:Nat) (w:World) (hI:Is w w.heap.size A xs) (hl:xs.length<=2) :
  Calls Tryd.prog 43 #[.int .i64 k,.slice A xs.length c] w fun e w'=>e=.returned (.agg #[.int .i64 k,.int .i64 (Z xs 0),.int .i64 (Z xs 1)])∧Below w.heap.size w w':=by
 obtain ⟨w0,hw0⟩:∃ w0,(w.alloc (.cells #[.int .i64 0,.int .i64 0,.int .i64 0] 24)).alloc (.cells #[.int .i64 0,.int .i64 0] 94)=w0:=⟨_,rfl⟩
 have hb0:Below w.heap.size w w0:=by rw [<- hw0];exact ((Below.refl _ w).alloc (Nat.le_refl _) _).alloc (by simp) _
 have bR:w0.heap[w.heap.size]?=some (.cells #[.int .i64 0,.int .i64 0,.int .i64 0] 24 (0,0)):=by rw [<- hw0];exact (Below.heap_alloc _ _ _ (by simp)).trans (heap_alloc_new _ _)
 have bB:w0.heap[w.heap.size+1]?=some (.cells #[.int .i64 0,.int .i64 0] 94 (0,0)):=by rw [<- hw0];exact newK _ _ _
 have hI0:=hI.below hb0
 obtain ⟨w1,hcp,hb1,b1,bR1⟩:∃ w1,(Builtin.copy_ #[57,57] 3 #[.slice (some ⟨w.heap.size+1,0,none⟩) 2 2,.slice A xs.length c]).run Tryd.prog w0=.ok (goInt (xs.length:Nat)) w1∧Below w.heap.size w w1 ∧
   w1.heap[w.heap.size+1]?=some (.cells #[.int .i64 (Z xs 0),.int .i64 (Z xs 1)] 94 (0,0))∧w1.heap[w.heap.size]?=some (.cells #[.int .i64 0,.int .i64 0,.int .i64 0] 24 (0,0)):=by
  match xs,hl with
  | [],_=>exact ⟨w0,run_copy_none w0 _ _ _ 3 _ _ _ _ _ _ Tryd.underlying57 infoI12 (by simp [Nat.min]),hb0,bB,bR⟩
  | [x],_ =>
   obtain ⟨b,off,rfl,hlt,hc⟩:=hI0 (by simp)
   have h:=run_copy_row Tryd.prog w0 57 57 3 3 (w.heap.size+1) 0 2 2 ⟨b,off,none⟩ 1 c _ _ [.int .i64 x] Tryd.underlying57 infoI12 bB (by simp [Nat.min]) (fun j v hj=>by
    have hj0:j=0:=by have:=(List.getElem?_eq_some_iff.1 hj).1;simpa using this
    subst hj0
    have:=hc 0 (by simp)
    simp at hj
    rw [<- hj]
    simpa [Addr.add,Z] using this) (by simp) (by simp [Value.oneCell'])
   exact ⟨_,h,setRow_below hb0 (by omega) _,setRow_heap _ _ _ _ _ _ bB,(setRow_other _ _ _ _ (by omega)).trans bR⟩
  | [x,y],_ =>
   obtain ⟨b,off,rfl,hlt,hc⟩:=hI0 (by simp)
   have h:=run_copy_row Tryd.prog w0 57 57 3 3 (w.heap.size+1) 0 2 2 ⟨b,off,none⟩ 2 c _ _ [.int .i64 x,.int .i64 y] Tryd.underlying57 infoI12 bB (by simp [Nat.min]) (fun j v hj=>by
    have hj0:j=0∨j=1:=by have:=(List.getElem?_eq_some_iff.1 hj).1;simp at this;omega
    rcases hj0 with rfl | rfl
    ·have:=hc 0 (by simp)
     simp at hj
     rw [<- hj]
     simpa [Addr.add,Z] using this
    ·have:=hc 1 (by simp)
     simp at hj
     rw [<- hj]
     simpa [Addr.add,Z] using this) (by simp) (by simp [Value.oneCell'])
   exact ⟨_,h,setRow_below hb0 (by omega) _,setRow_heap _ _ _ _ _ _ bB,(setRow_other _ _ _ _ (by omega)).trans bR⟩
 have HB1:=Lib.hid hb1
 have HI:=Lib.hid bR1
 obtain ⟨k0,k1⟩:w1.cell? ⟨w.heap.size+1,0,none⟩=some (.int .i64 (Z xs 0))∧w1.cell? ⟨w.heap.size+1,1,none⟩=some (.int .i64 (Z xs 1)):=⟨cell_of_row _ _ 0 _ _ _ b1,cell_of_row _ _ 1 _ _ _ b1⟩
 obtain ⟨r0,r1,r2⟩:w1.cell? ⟨w.heap.size,0,none⟩=some (.int .i64 0)∧w1.cell? ⟨w.heap.size,1,none⟩=some (.int .i64 0)∧w1.cell? ⟨w.heap.size,2,none⟩=some (.int .i64 0):=⟨cell_of_row _ _ 0 _ _ _ bR1,cell_of_row _ _ 1 _ _ _ bR1,cell_of_row _ _ 2 _ _ _ bR1⟩
 obtain ⟨f0,f1,f2⟩:w1.frozen? ⟨w.heap.size,0,none⟩=false∧w1.frozen? ⟨w.heap.size,1,none⟩=false∧w1.frozen? ⟨w.heap.size,2,none⟩=false:=⟨unfrozenB bR1,unfrozenB bR1,unfrozenB bR1⟩
 clear bR bB hI hI0 hb1 b1 bR1
 go_enter Tryd.func43,Tryd.ntmps43
 go_wp2_with fail
 have h3:=put3 (.int .i64 k) (.int .i64 (Z xs 0)) (.int .i64 (Z xs 1)) HI.out
 obtain ⟨m0,m1,m2⟩:=h3
 refine bodyPost_ret (v:=.agg #[.int .i64 k,.int .i64 (Z xs 0),.int .i64 (Z xs 1)]) (by simp [results,Tryd.f43,go_sem,m0,m1,m2]) rfl ?_
 exact ⟨rfl,((HB1.out.setCell (p:=⟨w.heap.size,0,none⟩) (Nat.le_refl _) _).setCell (p:=⟨w.heap.size,1,none⟩) (Nat.le_refl _) _).setCell (p:=⟨w.heap.size,2,none⟩) (Nat.le_refl _) _⟩
end Go.Proofs.YticccnkanihpnaaDoor

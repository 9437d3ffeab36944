import Derived.Test.YthpccmkagikhjaaGreatDoorQReadJournal3
import Derived.Test.YthpccmkagikhjaaGreatDoorQReadJournal4
import Derived.Test.YthpccmkagikhjaaGreatDoorQReadJournal6
import Derived.Test.YthpccmkagikhjaaGreatDoorQReadJournal8
import Derived.Test.YthpccmkagikhjaaGreatDoorQReadJournal9
import Derived.Test.YthpccmkagikhjaaGreatDoorQReadJournal10
import Derived.ArgAppend
namespace Go.Proofs.YthpccmkagikhjaaGreatDoor
set_option linter.unusedVariables false
open Go.RowKit
section
def insF (e:Int):List Int->List Int
 | []=>[e]
 | f::t=>if f<=e then f::insF e t else e::f::t
def leC (t:Int):List Int->Nat
 | []=>0
 | f::r=>leC t r+(if f<=t then 1 else 0)
theorem insF_len (e:Int) (F:List Int):(insF e F).length=F.length+1:=by
 induction F with
 | nil=>rfl
 | cons f t ih=>simp only [insF];split <;> simp [ih]
theorem leC_ins (t e:Int) (F:List Int):leC t (insF e F)=leC t F+(if e<=t then 1 else 0):=by
 induction F with
 | nil=>simp [insF,leC]
 | cons f r ih =>
  simp only [insF]
  split
  ·simp only [leC,ih];omega
  ·simp only [leC]
theorem mem_insF {e v:Int} {F:List Int}:v ∈ insF e F ↔ v=e∨v ∈ F:=by
 induction F with
 | nil=>simp [insF]
 | cons f r ih =>
  simp only [insF]
  split
  ·simp only [List.mem_cons,ih]
   constructor
   ·rintro (h | h | h) <;> simp [h]
   ·rintro (h | h | h) <;> simp [h]
  ·simp only [List.mem_cons]
theorem insF_sorted {e:Int} {F:List Int} (h:F.Pairwise (·<=·)):(insF e F).Pairwise (·<=·):=by
 induction F with
 | nil=>simp [insF]
 | cons f r ih =>
  obtain ⟨h1,h2⟩:=List.pairwise_cons.1 h
  simp only [insF]
  split
  ·rename_i hc
   refine List.pairwise_cons.2 ⟨fun v hv=>?_,ih h2⟩
   rcases mem_insF.1 hv with rfl | hv
   ·exact hc
   ·exact h1 v hv
  ·rename_i hc
   refine List.pairwise_cons.2 ⟨fun v hv=>?_,h⟩
   rcases List.mem_cons.1 hv with rfl | hv
   ·omega
   ·have:=h1 v hv;omega
theorem leC_none {t:Int} {F:List Int} (h:∀ v,v ∈ F->t < v):leC t F=0:=by
 induction F with
 | nil=>rfl
 | cons f r ih =>
  have:=h f (by simp)
  simp only [leC,ih (fun v hv=>h v (by simp [hv]))]
  rw [if_neg (by omega)]
theorem head_le {F:List Int} (hs:F.Pairwise (·<=·)) (hn:F≠[]) (t:Int):F.headD 0<=t ↔ 1<=leC t F:=by
 cases F with
 | nil=>exact absurd rfl hn
 | cons f r =>
  obtain ⟨h1,h2⟩:=List.pairwise_cons.1 hs
  simp only [List.headD_cons,leC]
  constructor
  ·intro h;rw [if_pos h];omega
  ·intro h
   by_cases hc:f<=t
   ·exact hc
   ·rw [leC_none (fun v hv=>by have:=h1 v hv;omega),if_neg hc] at h;omega
theorem tail_le {F:List Int} (hs:F.Pairwise (·<=·)) (t:Int):leC t F.tail=leC t F - 1:=by
 cases F with
 | nil=>rfl
 | cons f r =>
  obtain ⟨h1,h2⟩:=List.pairwise_cons.1 hs
  simp only [List.tail_cons,leC]
  by_cases hc:f<=t
  ·rw [if_pos hc];omega
  ·rw [leC_none (fun v hv=>by have:=h1 v hv;omega),if_neg hc]
def bgnOf (F:List Int) (x:Int):Int:=max (F.headD 0) x
def freeK (L:List (Int×Int)) (c:Nat):Nat->List Int
 | 0=>List.replicate c 0
 | k+1=>insF (bgnOf (freeK L c k) (X L k)+Y L k) (freeK L c k).tail
def bgn (L:List (Int×Int)) (c k:Nat):Int:=bgnOf (freeK L c k) (X L k)
theorem freeK_succ (L:List (Int×Int)) (c k:Nat):freeK L c (k+1)=insF (bgn L c k+Y L k) (freeK L c k).tail:=rfl
theorem freeK_len (L:List (Int×Int)) {c:Nat} (hc:1<=c):∀ k,(freeK L c k).length=c:=by
 intro k
 induction k with
 | zero=>simp [freeK]
 | succ k ih=>rw [freeK,insF_len,List.length_tail,ih];omega
theorem freeK_ne (L:List (Int×Int)) {c:Nat} (hc:1<=c) (k:Nat):freeK L c k≠[]:=by
 intro e;have:=freeK_len L hc k;rw [e] at this;simp at this;omega
theorem freeK_sorted (L:List (Int×Int)) (c:Nat):∀ k,(freeK L c k).Pairwise (·<=·):=by
 intro k
 induction k with
 | zero=>exact List.pairwise_replicate.2 (Or.inr (Int.le_refl _))
 | succ k ih=>exact insF_sorted (ih.tail)
theorem free_dom {L M:List (Int×Int)} {c d n:Nat} (hc:1<=c) (hcd:c<=d) (hX:∀ k,k < n->X M k=X L k) (hY:∀ k,k < n->Y M k<=Y L k) :
  ∀ k,k<=n->(∀ t,leC t (freeK L c k)<=leC t (freeK M d k))∧(k < n->bgn M d k<=bgn L c k):=by
 have key:∀ k,(∀ t,leC t (freeK L c k)<=leC t (freeK M d k))->k < n->bgn M d k<=bgn L c k:=by
  intro k hd hk
  have h1:=(head_le (freeK_sorted L c k) (freeK_ne L hc k) ((freeK L c k).headD 0)).1 (Int.le_refl _)
  have h2:=(head_le (freeK_sorted M d k) (freeK_ne M (by omega) k) ((freeK L c k).headD 0)).2 (by have:=hd ((freeK L c k).headD 0);omega)
  simp only [bgn,bgnOf,hX k hk];omega
 have dom:∀ k,k<=n->∀ t,leC t (freeK L c k)<=leC t (freeK M d k):=by
  intro k
  induction k with
  | zero =>
   intro _ t
   have:∀ m,leC t (List.replicate m 0)=if 0<=t then m else 0:=by
    intro m
    induction m with
    | zero=>simp [leC]
    | succ m ih=>simp only [List.replicate_succ,leC,ih];split <;> omega
   simp only [freeK,this];split <;> omega
  | succ k ih =>
   intro hk t
   have i:=ih (by omega)
   have b:=key k i (by omega)
   have y:=hY k (by omega)
   rw [freeK_succ,freeK_succ,leC_ins,leC_ins,tail_le (freeK_sorted L c k),tail_le (freeK_sorted M d k)]
   have:=i t
   split <;> split <;> omega
 intro k hk
 exact ⟨dom k hk,key k (dom k hk)⟩
theorem bgn_come (L:List (Int×Int)) (c k:Nat):X L k<=bgn L c k:=by simp only [bgn,bgnOf];omega
theorem bgn_one {L:List (Int×Int)} (h:cOk L=true):∀ k,k < L.length->bgn L 1 k=X L k+waitAt L k:=by
 have key:∀ k,k < L.length->freeK L 1 k=[if k=0 then 0 else leaveAt L (k - 1)]∧bgn L 1 k=X L k+waitAt L k:=by
  intro k
  induction k with
  | zero =>
   intro hk
   have:=cOk_bd h hk
   refine ⟨rfl,?_⟩
   simp only [bgn,bgnOf,freeK,waitAt,List.replicate_succ,List.headD_cons];omega
  | succ k ih =>
   intro hk
   obtain ⟨i1,i2⟩:=ih (by omega)
   have e:freeK L 1 (k+1)=[leaveAt L k]:=by rw [freeK_succ,i1,i2];simp [insF,leaveAt]
   refine ⟨by rw [e];simp,?_⟩
   simp only [bgn,bgnOf,e,List.headD_cons,waitAt,leaveAt];omega
 exact fun k hk=>(key k hk).2
theorem bgn_last {L:List (Int×Int)} (h:cOk L=true) {c:Nat} (hc:1<=c) {k:Nat} (hk:k < L.length):bgn L c k+Y L k<=lastLeave L:=by
 have d:=(free_dom (L:=L) (M:=L) (c:=1) (d:=c) (n:=L.length) (Nat.le_refl _) hc (fun _ _=>rfl) (fun _ _=>Int.le_refl _) k (by omega)).2 hk
 rw [bgn_one h k hk] at d
 have e:=leaveAt_fwd h k hk
 have m:=fwd_mono h (i:=k+1) (j:=L.length) (by omega) (Nat.le_refl _)
 rw [lastLeave_fwd h]
 simp only [leaveAt] at e;omega
theorem bgn_bd {L:List (Int×Int)} (h:cOk L=true) {c:Nat} (hc:1<=c) {k:Nat} (hk:k < L.length):0<=bgn L c k∧bgn L c k<=200:=by
 have a:=bgn_come L c k
 have b:=cOk_bd h hk
 have l:=bgn_last h hc hk
 have m:=lastLeave_bd h
 omega
def waitS (L:List (Int×Int)) (c:Nat):Nat->Int
 | 0=>0
 | k+1=>waitS L c k+bgn L c k - X L k
theorem waitS_bd {L:List (Int×Int)} (h:cOk L=true) {c:Nat} (hc:1<=c):∀ k,k<=L.length->0<=waitS L c k∧waitS L c k<=200 * k:=by
 intro k
 induction k with
 | zero=>intro _;simp [waitS]
 | succ k ih =>
  intro hk
  have:=ih (by omega)
  have:=bgn_come L c k
  have:=bgn_bd h hc (k:=k) (by omega)
  have:=cOk_bd h (k:=k) (by omega)
  simp only [waitS];omega
def besOk (L:List (Int×Int)) (c:Int):Bool:=cOk L && decide (1<=c∧c<=4)
theorem besOk_parts {L:List (Int×Int)} {c:Int} (h:besOk L c=true):cOk L=true∧1<=c∧c<=4:=by simpa [besOk] using h
def beginsTo (L:List (Int×Int)) (c k:Nat):List Int:=(List.range k).map (bgn L c)
theorem beginsTo_len (L:List (Int×Int)) (c k:Nat):(beginsTo L c k).length=k:=by simp [beginsTo]
theorem beginsTo_succ (L:List (Int×Int)) (c k:Nat):beginsTo L c (k+1)=beginsTo L c k++[bgn L c k]:=by simp [beginsTo,List.range_succ]
theorem beginsTo_Z {L:List (Int×Int)} {c n k:Nat} (h:k < n):Z (beginsTo L c n) k=bgn L c k:=by simp [Z,beginsTo,h]
def beginsV (L:List (Int×Int)) (c:Int):List Int:=if besOk L c=true then beginsTo L c.toNat L.length else []
theorem beginsV_yes {L:List (Int×Int)} {c:Int} (h:besOk L c=true):beginsV L c=beginsTo L c.toNat L.length:=if_pos h
theorem beginsV_no {L:List (Int×Int)} {c:Int} (h:besOk L c=false):beginsV L c=[]:=by simp [beginsV,h]
def waitSumV (L:List (Int×Int)) (c:Int):Int:=if besOk L c=true then waitS L c.toNat L.length else -1
theorem waitSumV_yes {L:List (Int×Int)} {c:Int} (h:besOk L c=true):waitSumV L c=waitS L c.toNat L.length:=if_pos h
theorem waitSumV_no {L:List (Int×Int)} {c:Int} (h:besOk L c=false):waitSumV L c=-1:=by simp [waitSumV,h]
end
section
def picked (L:List (Int×Int)) (t:Nat) (lf:List Int) (w:Int):Prop:=(w=-1∧wk L t=0)∨(∃ p:Nat,w=p∧p < L.length∧X L p<=t∧0 < Z lf p∧wk L t≠0)
theorem OI.nextW {L:List (Int×Int)} (hc:cOk L=true) {t:Nat} {lf:List Int} (h:OI L t lf) {w:Int} (hp:picked L t lf w):OI L (t+1) (stepL lf w):=by
 have hw:wk L (t+1)=max (wk L t - 1) 0+arr L ((t:Int)+1):=rfl
 have hwn:=wk_nn hc t
 rcases hp with ⟨e,h0⟩ | ⟨p,e,hp,hx,hz,hne⟩
 ·rw [e]
  have es:stepL lf (-1)=lf:=by simp [stepL]
  rw [es]
  have late:∀ k,k < L.length->(t:Int)+1<=X L k->Z lf k=Y L k:=fun k hk hk2=>h.late k hk (by omega)
  refine ⟨h.len,h.rng,fun k hk hk2=>late k hk (by omega),?_⟩
  rw [show ((t+1:Nat):Int)=(t:Int)+1 by omega,thereTo_next late _ (Nat.le_refl _),h.sum,hw,h0]
  unfold arr;omega
 ·rw [e]
  have es:stepL lf (p:Int)=lf.set p (Z lf p - 1):=by simp [stepL]
  rw [es]
  have hl:p < lf.length:=by rw [h.len];exact hp
  have late:∀ k,k < L.length->(t:Int)+1<=X L k->Z (lf.set p (Z lf p - 1)) k=Y L k:=fun k hk hk2=>by
   rw [Z_set hl,if_neg (by intro e2;subst e2;omega)]
   exact h.late k hk (by omega)
  refine ⟨by rw [List.length_set];exact h.len,fun k hk=>?_,fun k hk hk2=>late k hk (by omega),?_⟩
  ·rw [Z_set hl]
   have r:=h.rng k hk
   split
   ·rename_i e2;subst e2;omega
   ·exact r
  ·rw [show ((t+1:Nat):Int)=(t:Int)+1 by omega,thereTo_next late _ (Nat.le_refl _),thereTo_set hl,if_pos ⟨hp,hx⟩,h.sum,hw]
   unfold arr;omega
theorem OI.first {L:List (Int×Int)} (hc:cOk L=true):OI L 0 (needs L):=by
 refine ⟨needs_len L,fun k hk=>?_,fun k hk _=>needs_Z hk,thereTo_first hc _ (Nat.le_refl _)⟩
 have bd:=cOk_bd hc hk
 rw [needs_Z hk];omega
def ordF (W:Nat->Int) (n:Nat):List Int:=(List.range n).map W
theorem ordF_len (W:Nat->Int) (n:Nat):(ordF W n).length=n:=by simp [ordF]
theorem ordF_succ (W:Nat->Int) (n:Nat):ordF W (n+1)=ordF W n++[W n]:=by simp [ordF,List.range_succ]
theorem ordF_Z {W:Nat->Int} {n k:Nat} (h:k < n):Z (ordF W n) k=W k:=by simp [Z,ordF,h]
section
variable {L:List (Int×Int)} {W:Nat->Int} {lf:Nat->List Int}
theorem leftOf_F (h0:lf 0=needs L) (h1:∀ t,lf (t+1)=stepL (lf t) (W t)) (n:Nat):∀ t,t<=n->leftOf L (ordF W n) t=lf t:=by
 intro t
 induction t with
 | zero=>intro _;exact h0.symm
 | succ t ih=>intro h;simp only [leftOf,h1,ih (by omega),ordF_Z (W:=W) (n:=n) (k:=t) (by omega)]
theorem OI.all (hc:cOk L=true) (h0:lf 0=needs L) (h1:∀ t,lf (t+1)=stepL (lf t) (W t)) (hp:∀ t,OI L t (lf t)->picked L t (lf t) (W t)):∀ t,OI L t (lf t):=by
 intro t
 induction t with
 | zero=>rw [h0];exact OI.first hc
 | succ t ih=>rw [h1];exact ih.nextW hc (hp t ih)
theorem OI.end (hc:cOk L=true) {T:Nat} (hT:lastLeave L<=T) {lf:List Int} (inv:OI L T lf) {k:Nat} (hk:k < L.length):Z lf k=0:=by
 have h0:=wk_end hc hT
 have r:=inv.rng k hk
 have hx:X L k<=T:=by
  have f:=fwd_mono hc (i:=k+1) (j:=L.length) (by omega) (Nat.le_refl _)
  have bd:=cOk_bd hc hk
  rw [lastLeave_fwd hc] at hT
  simp only [fwd] at f
  omega
 refine Classical.byContradiction fun hne=>?_
 have:=thereTo_pos (lf:=lf) hx (by omega) L.length hk (fun j hj=>(inv.rng j hj).1)
 rw [inv.sum] at this
 omega
theorem ordF_ok (hc:cOk L=true) (h0:lf 0=needs L) (h1:∀ t,lf (t+1)=stepL (lf t) (W t)) (hp:∀ t,OI L t (lf t)->picked L t (lf t) (W t)) {T:Nat} (hT:lastLeave L=T):ordOk L (ordF W T)=true:=by
 have hb:=lastLeave_bd hc
 have inv:=OI.all hc h0 h1 hp
 simp only [ordOk,Bool.and_eq_true,decide_eq_true_eq,ordF_len]
 refine ⟨⟨⟨hc,by omega⟩,unitsOk_of _ fun t ht=>unitOk_of ?_⟩,noneLeft_of _ fun k hk=>?_⟩
 ·rw [ordF_Z ht,leftOf_F h0 h1 T t (by omega)]
  rcases hp t (inv t) with ⟨e,_⟩ | ⟨p,e,hp,hx,hz,_⟩
  ·exact .inl e
  ·exact .inr ⟨p,e,hp,hx,by omega⟩
 ·rw [leftOf_F h0 h1 T T (Nat.le_refl _),OI.end hc (by omega) (inv T) hk]
  exact Int.le_refl _
end
def newC (L:List (Int×Int)) (t:Int):Nat->List Int
 | 0=>[]
 | k+1=>if X L k=t then newC L t k++[(k:Int)] else newC L t k
def backR (lf:List Int) (b:Int):List Int:=if 0<=b∧0 < Z lf b.toNat then [b] else []
def rrS (L:List (Int×Int)):Nat->List Int×List Int×Int
 | 0=>([],needs L,-1)
 | t+1 =>
  let q:=(rrS L t).1++backR (rrS L t).2.1 (rrS L t).2.2++newC L t L.length
  (q.tail,stepL (rrS L t).2.1 (q.headD (-1)),q.headD (-1))
def rrRow (L:List (Int×Int)) (t:Nat):List Int:=(rrS L t).1
def rrLf (L:List (Int×Int)) (t:Nat):List Int:=(rrS L t).2.1
def rrB (L:List (Int×Int)) (t:Nat):Int:=(rrS L t).2.2
def rrQ (L:List (Int×Int)) (t:Nat):List Int:=rrRow L t++backR (rrLf L t) (rrB L t)++newC L t L.length
def rrW (L:List (Int×Int)) (t:Nat):Int:=(rrQ L t).headD (-1)
theorem rrLf_zero (L:List (Int×Int)):rrLf L 0=needs L:=rfl
theorem rrLf_succ (L:List (Int×Int)) (t:Nat):rrLf L (t+1)=stepL (rrLf L t) (rrW L t):=rfl
theorem rrB_succ (L:List (Int×Int)) (t:Nat):rrB L (t+1)=rrW L t:=rfl
theorem newC_mem {L:List (Int×Int)} {t v:Int}:∀ {n},v ∈ newC L t n ↔ ∃ p:Nat,v=p∧p < n∧X L p=t:=by
 intro n
 induction n with
 | zero=>simp [newC]
 | succ n ih =>
  simp only [newC]
  split
  ·rename_i hc
   rw [List.mem_append,ih,List.mem_singleton]
   constructor
   ·rintro (⟨p,e,h1,h2⟩ | h)
    ·exact ⟨p,e,by omega,h2⟩
    ·exact ⟨n,h,by omega,hc⟩
   ·rintro ⟨p,e,h1,h2⟩
    by_cases hp:p=n
    ·subst hp;exact .inr e
    ·exact .inl ⟨p,e,by omega,h2⟩
  ·rename_i hc
   rw [ih]
   constructor
   ·rintro ⟨p,e,h1,h2⟩;exact ⟨p,e,by omega,h2⟩
   ·rintro ⟨p,e,h1,h2⟩
    by_cases hp:p=n
    ·subst hp;exact absurd h2 hc
    ·exact ⟨p,e,by omega,h2⟩
theorem newC_nodup (L:List (Int×Int)) (t:Int):∀ n,(newC L t n).Nodup:=by
 intro n
 induction n with
 | zero=>simp [newC]
 | succ n ih =>
  simp only [newC]
  split
  ·refine List.nodup_append.2 ⟨ih,by simp,fun a ha b hb=>?_⟩
   obtain ⟨p,rfl,hp,_⟩:=newC_mem.1 ha
   rw [List.mem_singleton.1 hb];omega
  ·exact ih
def rrIn (L:List (Int×Int)) (lf:List Int) (t:Nat) (v:Int):Prop:=∃ p:Nat,v=p∧p < L.length∧X L p<=t∧0 < Z lf p
theorem rr_picks {L:List (Int×Int)} {t:Nat} (inv:OI L t (rrLf L t)) (hm:∀ v,v ∈ rrQ L t ↔ rrIn L (rrLf L t) t v):picked L t (rrLf L t) (rrW L t):=by
 cases hq:rrQ L t with
 | nil =>
  refine .inl ⟨by simp [rrW,hq],?_⟩
  rw [<- inv.sum]
  refine thereTo_none _ fun k hk=>?_
  have:=(hm (k:Int)).2
  rw [hq] at this
  have r:=inv.rng k hk
  by_cases hx:X L k<=t
  ·by_cases hz:0 < Z (rrLf L t) k
   ·exact absurd (this ⟨k,rfl,hk,hx,hz⟩) (by simp)
   ·right;omega
  ·left;omega
 | cons w r =>
  obtain ⟨p,e,hp,hx,hz⟩:=(hm w).1 (by rw [hq];simp)
  have hpos:=thereTo_pos (lf:=rrLf L t) hx hz L.length hp (fun k hk=>(inv.rng k hk).1)
  rw [inv.sum] at hpos
  exact .inr ⟨p,by simp [rrW,hq,e],hp,hx,hz,by omega⟩
theorem rr_inv {L:List (Int×Int)} (hc:cOk L=true):∀ t,OI L t (rrLf L t)∧(rrQ L t).Nodup∧∀ v,v ∈ rrQ L t ↔ rrIn L (rrLf L t) t v:=by
 intro t
 induction t with
 | zero =>
  have e:rrQ L 0=newC L 0 L.length:=by simp [rrQ,rrRow,rrS,rrB,backR]
  refine ⟨by rw [rrLf_zero];exact OI.first hc,by rw [e];exact newC_nodup _ _ _,fun v=>?_⟩
  rw [e,newC_mem,rrLf_zero]
  constructor
  ·rintro ⟨p,rfl,hp,hx⟩
   have:=cOk_bd hc hp
   exact ⟨p,rfl,hp,by omega,by rw [needs_Z hp];omega⟩
  ·rintro ⟨p,rfl,hp,hx,_⟩
   have:=cOk_bd hc hp
   exact ⟨p,rfl,hp,by omega⟩
 | succ t ih =>
  obtain ⟨inv,hnd,hm⟩:=ih
  have hp:=rr_picks inv hm
  have inv':OI L (t+1) (rrLf L (t+1)):=by rw [rrLf_succ];exact inv.nextW hc hp
  have eq:rrQ L (t+1)=(rrQ L t).tail++backR (rrLf L (t+1)) (rrW L t)++newC L ((t+1:Nat):Int) L.length:=rfl
  refine ⟨inv',?_⟩
  cases hq:rrQ L t with
  | nil =>
   have hw:rrW L t=-1:=by simp [rrW,hq]
   have hl:rrLf L (t+1)=rrLf L t:=by rw [rrLf_succ,hw];simp [stepL]
   have e:rrQ L (t+1)=newC L ((t+1:Nat):Int) L.length:=by rw [eq,hq,hw];simp [backR]
   refine ⟨by rw [e];exact newC_nodup _ _ _,fun v=>?_⟩
   rw [e,newC_mem,hl]
   constructor
   ·rintro ⟨p,rfl,hp,hx⟩
    have l:=inv.late p hp (by omega)
    have:=cOk_bd hc hp
    exact ⟨p,rfl,hp,by omega,by omega⟩
   ·rintro ⟨p,rfl,hp,hx,hz⟩
    refine ⟨p,rfl,hp,?_⟩
    by_cases h:X L p<=t
    ·have:=(hm (p:Int)).2 ⟨p,rfl,hp,h,hz⟩
     rw [hq] at this;cases this
    ·omega
  | cons w r =>
   have hw:rrW L t=w:=by simp [rrW,hq]
   rw [hq] at hnd hm
   obtain ⟨hwr,hr⟩:=List.nodup_cons.1 hnd
   obtain ⟨p0,rfl,hp0,hx0,hz0⟩:=(hm w).1 (by simp)
   have hll:p0 < (rrLf L t).length:=by rw [inv.len];exact hp0
   have hl:rrLf L (t+1)=(rrLf L t).set p0 (Z (rrLf L t) p0 - 1):=by rw [rrLf_succ,hw];simp [stepL]
   have hZ:∀ k,Z (rrLf L (t+1)) k=if p0=k then Z (rrLf L t) p0 - 1 else Z (rrLf L t) k:=fun k=>by rw [hl,Z_set hll]
   have hb:backR (rrLf L (t+1)) (p0:Int)=if 1 < Z (rrLf L t) p0 then [(p0:Int)] else []:=by
    simp only [backR,Int.toNat_natCast,hZ p0,if_pos]
    by_cases h:1 < Z (rrLf L t) p0
    ·rw [if_pos h,if_pos ⟨by omega,by omega⟩]
    ·rw [if_neg h,if_neg (by omega)]
   have e:rrQ L (t+1)=r++(if 1 < Z (rrLf L t) p0 then [(p0:Int)] else [])++newC L ((t+1:Nat):Int) L.length:=by rw [eq,hq,hw,hb];rfl
   have hold:∀ v,v ∈ r->∃ p:Nat,v=p∧p < L.length∧X L p<=t∧0 < Z (rrLf L t) p:=fun v hv=>(hm v).1 (by simp [hv])
   refine ⟨?_,fun v=>?_⟩
   ·rw [e]
    refine List.nodup_append.2 ⟨List.nodup_append.2 ⟨hr,by split <;> simp,fun a ha b hb2=>?_⟩,newC_nodup _ _ _,fun a ha b hb2=>?_⟩
    ·split at hb2
     ·rw [List.mem_singleton.1 hb2];intro e2;subst e2;exact hwr ha
     ·cases hb2
    ·obtain ⟨q,rfl,_,hxq⟩:=newC_mem.1 hb2
     rcases List.mem_append.1 ha with ha | ha
     ·obtain ⟨p,rfl,_,hxp,_⟩:=hold a ha
      intro e2
      have:p=q:=by omega
      subst this;omega
     ·split at ha
      ·rw [List.mem_singleton.1 ha]
       intro e2
       have:p0=q:=by omega
       subst this;omega
      ·cases ha
   ·rw [e,List.mem_append,List.mem_append,newC_mem]
    constructor
    ·rintro ((hv | hv) | ⟨p,rfl,hp,hx⟩)
     ·obtain ⟨p,rfl,h1,h2,h3⟩:=hold v hv
      refine ⟨p,rfl,h1,by omega,?_⟩
      rw [hZ,if_neg (by intro e2;subst e2;exact hwr hv)];exact h3
     ·split at hv
      ·rename_i h
       rw [List.mem_singleton.1 hv]
       exact ⟨p0,rfl,hp0,by omega,by rw [hZ,if_pos rfl];omega⟩
      ·cases hv
     ·have l:=inv'.late p hp (by omega)
      have:=cOk_bd hc hp
      exact ⟨p,rfl,hp,by omega,by omega⟩
    ·rintro ⟨p,rfl,hp,hx,hz⟩
     rw [hZ] at hz
     by_cases hpp:p0=p
     ·subst hpp
      rw [if_pos rfl] at hz
      left;right
      rw [if_pos (by omega)];simp
     ·rw [if_neg hpp] at hz
      by_cases h:X L p<=t
      ·have:=(hm (p:Int)).2 ⟨p,rfl,hp,h,hz⟩
       rcases List.mem_cons.1 this with e2 | e2
       ·omega
       ·exact .inl (.inl e2)
      ·exact .inr ⟨p,rfl,hp,by omega⟩
def rrO (L:List (Int×Int)) (n:Nat):List Int:=ordF (rrW L) n
theorem rr_left {L:List (Int×Int)} (n:Nat) {t:Nat} (ht:t<=n):leftOf L (rrO L n) t=rrLf L t:=leftOf_F (rrLf_zero L) (rrLf_succ L) n t ht
theorem rr_ok {L:List (Int×Int)} (hc:cOk L=true) {T:Nat} (hT:lastLeave L=T):ordOk L (rrO L T)=true :=
 ordF_ok hc (rrLf_zero L) (rrLf_succ L) (fun t inv=>rr_picks inv (rr_inv hc t).2.2) hT
end
section
def nd (L:List (Int×Int)) (v:Int):Int:=X L v.toNat
def wt (L:List (Int×Int)) (v:Int):Int:=Y L v.toNat
def wl (L:List (Int×Int)):Int->List Int->Int
 | _,[]=>0
 | t,v::o=>(t+nd L v) * wt L v+wl L (t+nd L v) o
theorem perm_of_all {p:List Int}:∀ {q:List Int},p.Nodup->(∀ v,v ∈ p->v ∈ q)->q.length<=p.length->p.Perm q:=by
 induction p with
 | nil=>intro q _ _ hl;simp at hl;rw [hl]
 | cons a p ih =>
  intro q hn hs hl
  have ha:a ∈ q:=hs a (by simp)
  obtain ⟨hna,hn2⟩:=List.nodup_cons.1 hn
  have e:=List.perm_cons_erase ha
  have hle:(q.erase a).length=q.length - 1:=List.length_erase_of_mem ha
  have hq:0 < q.length:=List.length_pos_of_mem ha
  refine (List.Perm.cons a (ih hn2 (fun v hv=>?_) (by simp at hl;omega))).trans e.symm
  have hva:v≠a:=fun e=>hna (e ▸ hv)
  exact (List.mem_erase_of_ne hva).2 (hs v (by simp [hv]))
def upto (n:Nat):List Int:=(List.range n).map fun (i:Nat)=>(i:Int)
theorem upto_len (n:Nat):(upto n).length=n:=by simp [upto]
theorem mem_upto {n:Nat} {v:Int}:v ∈ upto n ↔ 0<=v∧v < n:=by
 simp only [upto,List.mem_map,List.mem_range]
 constructor
 ·rintro ⟨i,hi,rfl⟩;omega
 ·intro h;exact ⟨v.toNat,by omega,by omega⟩
theorem Z_get {o:List Int} {i:Nat} (h:i < o.length):Z o i=o[i]:=by simp [Z,h]
end
section
def roundR (L:List (Int×Int)):List Int:=if cOk L=true then rrO L (lastLeave L).toNat else []
theorem roundR_yes {L:List (Int×Int)} (h:cOk L=true) {T:Nat} (hT:lastLeave L=T):roundR L=rrO L T:=by rw [roundR,if_pos h,hT];rfl
theorem roundR_no {L:List (Int×Int)} (h:cOk L=false):roundR L=[]:=by simp [roundR,h]
theorem rrO_len (L:List (Int×Int)) (n:Nat):(rrO L n).length=n:=ordF_len _ _
theorem rrQ_len {L:List (Int×Int)} (hc:cOk L=true) (t:Nat):(rrQ L t).length<=8:=by
 obtain ⟨_,hnd,hm⟩:=rr_inv hc t
 have hlen:=cOk_len hc
 have hin:∀ v,v ∈ rrQ L t->v ∈ upto L.length:=fun v hv=>by
  obtain ⟨p,rfl,hp,_⟩:=(hm v).1 hv
  exact mem_upto.2 ⟨by omega,by omega⟩
 rcases Nat.lt_or_ge L.length (rrQ L t).length with h | h
 ·have:=(perm_of_all hnd hin (by rw [upto_len];omega)).length_eq
  rw [upto_len] at this;omega
 ·omega
end
section
def wMany:List UInt8:=[109,97,110,121]
def wWaits:List UInt8:=[119,97,105,116,115]
def wLeaves:List UInt8:=[108,101,97,118,101,115]
def wLast:List UInt8:=[108,97,115,116]
def wRounds:List UInt8:=[114,111,117,110,100,115]
def wBusy:List UInt8:=[98,117,115,121]
def wLeast:List UInt8:=[108,101,97,115,116]
def wIdle:List UInt8:=[105,100,108,101]
def wWork:List UInt8:=[119,111,114,107]
def wOrder:List UInt8:=[111,114,100,101,114]
def wSum:List UInt8:=[115,117,109]
def wBeside:List UInt8:=[98,101,115,105,100,101]
def wWhat:List UInt8:=[119,104,97,116]
def wOk:List UInt8:=[111,107]
def wNot:List UInt8:=[110,111,116]
def rowB (L:List (Int×Int)):List Int:=(rows (busyP L)).flatten
def numOr (x:Int):List UInt8:=if x < 0 then wNone else numL x.toNat
def wordsOk (ws:List (List UInt8)):Bool:=decide (ws.length=2) && decide (0<=digL (ZS2 ws 1))
where ZS2 (xs:List (List UInt8)) (k:Nat):List UInt8:=xs.getD k []
def askW (L:List (Int×Int)) (u:List UInt8) (n:Int):List UInt8 :=
 if u=wWork then numOr (workV L n) else if u=wOrder then rowText (orderR L n) else if u=wSum then (if n < 4 then numOr (sumV L (orderR L n)) else wNone) else if u=wBeside then numOr (waitSumV L n) else wWhat
def askL (L:List (Int×Int)) (s:List UInt8):List UInt8 :=
 if s=wMany then numL L.length else if s=wWaits then rowText (waits L) else if s=wLeaves then rowText (leaves L) else if s=wLast then rowText (lastR L) else if s=wRounds then rowText (roundR L)
 else if s=wBusy then rowText (rowB L) else if s=wNeed then numL (needOf L).toNat else if s=wLeast then numL (leastV L).toNat else if s=wIdle then numL (idleV L).toNat
 else if wordsOk (cutL 32 s)=true then askW L ((cutL 32 s).getD 0 []) (digL ((cutL 32 s).getD 1 [])) else wWhat
theorem ask_Many (L:List (Int×Int)):askL L wMany=numL L.length:=by
 unfold askL
 rw [if_pos rfl]
theorem ask_Waits (L:List (Int×Int)):askL L wWaits=rowText (waits L):=by
 unfold askL
 rw [if_neg (by decide),if_pos rfl]
theorem ask_Leaves (L:List (Int×Int)):askL L wLeaves=rowText (leaves L):=by
 unfold askL
 rw [if_neg (by decide),if_neg (by decide),if_pos rfl]
theorem ask_Last (L:List (Int×Int)):askL L wLast=rowText (lastR L):=by
 unfold askL
 rw [if_neg (by decide),if_neg (by decide),if_neg (by decide),if_pos rfl]
theorem ask_Rounds (L:List (Int×Int)):askL L wRounds=rowText (roundR L):=by
 unfold askL
 rw [if_neg (by decide),if_neg (by decide),if_neg (by decide),if_neg (by decide),if_pos rfl]
theorem ask_Busy (L:List (Int×Int)):askL L wBusy=rowText (rowB L):=by
 unfold askL
 rw [if_neg (by decide),if_neg (by decide),if_neg (by decide),if_neg (by decide),if_neg (by decide),if_pos rfl]
theorem ask_Need (L:List (Int×Int)):askL L wNeed=numL (needOf L).toNat:=by
 unfold askL
 rw [if_neg (by decide),if_neg (by decide),if_neg (by decide),if_neg (by decide),if_neg (by decide),if_neg (by decide),if_pos rfl]
theorem ask_Least (L:List (Int×Int)):askL L wLeast=numL (leastV L).toNat:=by
 unfold askL
 rw [if_neg (by decide),if_neg (by decide),if_neg (by decide),if_neg (by decide),if_neg (by decide),if_neg (by decide),if_neg (by decide),if_pos rfl]
theorem ask_Idle (L:List (Int×Int)):askL L wIdle=numL (idleV L).toNat:=by
 unfold askL
 rw [if_neg (by decide),if_neg (by decide),if_neg (by decide),if_neg (by decide),if_neg (by decide),if_neg (by decide),if_neg (by decide),if_neg (by decide),if_pos rfl]
def smallL (xs:List Int):Prop:=xs.length<=1000000∧∀ k,k < xs.length->Z xs k<=1000000000
theorem small_mem {xs:List Int} (h1:xs.length<=1000000) (h2:∀ v ∈ xs,v<=1000000000):smallL xs:=⟨h1,fun k hk=>h2 _ (by rw [Z_get hk];exact List.getElem_mem _)⟩
theorem small_nil:smallL []:=⟨by simp,fun k hk=>by simp at hk⟩
theorem small_ord {L:List (Int×Int)} {o:List Int} (h:ordOk L o=true):smallL o:=by
 have p:=ordOk_parts h
 have hl:=cOk_len p.1
 refine ⟨by omega,fun k hk=>?_⟩
 rcases unitOk_cases (unitsOk_at _ p.2.2.1 k hk) with e | ⟨q,e,hq,-,-⟩ <;> rw [e] <;> omega
theorem order_ok7 {L:List (Int×Int)} {r:Int} (h:byOk L r=true):ordOk L (orderR L r)=true:=by
 have hb:=h
 simp only [byOk,Bool.and_eq_true,decide_eq_true_eq] at hb
 obtain ⟨T,hT,-⟩:=lastLeave_nat hb.1
 obtain ⟨k,rfl⟩:=Int.eq_ofNat_of_zero_le hb.2.1
 rw [orderR_yes h,hT,Int.toNat_natCast]
 exact orderTo_ok hb.1 k hT
theorem small_order (L:List (Int×Int)) (r:Int):smallL (orderR L r):=by
 cases h:byOk L r with
 | true=>exact small_ord (order_ok7 h)
 | false=>rw [orderR_no h];exact small_nil
theorem small_rounds {L:List (Int×Int)} (h:cOk L=true):smallL (roundR L):=by
 obtain ⟨T,hT,-⟩:=lastLeave_nat h
 rw [roundR,if_pos h,hT,Int.toNat_natCast]
 exact small_ord (rr_ok h hT)
theorem small_waits {L:List (Int×Int)} (h:cOk L=true):smallL (waits L):=by
 have hl:=cOk_len h
 rw [waits,if_pos h]
 refine ⟨by rw [waitsTo_len];omega,fun k hk=>?_⟩
 rw [waitsTo_len] at hk
 have e:Z (waitsTo L L.length) k=waitAt L k:=by simp [Z,waitsTo,hk]
 have:=waitAt_bd h k hk
 rw [e];omega
theorem small_leaves {L:List (Int×Int)} (h:cOk L=true):smallL (leaves L):=by
 have hl:=cOk_len h
 rw [leaves,if_pos h]
 refine ⟨by rw [leavesTo_len];omega,fun k hk=>?_⟩
 rw [leavesTo_len] at hk
 have e:Z (leavesTo L L.length) k=leaveAt L k:=by simp [Z,leavesTo,hk]
 have:=leaveAt_bd h hk
 rw [e];omega
theorem small_last {L:List (Int×Int)} (h:cOk L=true):smallL (lastR L):=by
 have hl:=cOk_len h
 have ho:=order_ok7 (L:=L) (r:=1) (by simp [byOk,h])
 rw [lastR,timesR_yes ho]
 refine ⟨by rw [timeL_len];omega,fun k hk=>?_⟩
 rw [timeL_len] at hk
 have:=time_bd ho hk
 rw [timeL_Z hk];omega
theorem busyT_small (L:List (Int×Int)):∀ t,∀ c ∈ busyT L t,c.1<=t∧c.2<=t:=by
 intro t
 induction t with
 | zero=>intro c hc;simp [busyT] at hc
 | succ t ih =>
  intro c hc
  simp only [busyT] at hc
  split at hc
  ·have:=ih c hc;omega
  ·unfold busyNext at hc
   split at hc
   ·rename_i hlast
    rcases List.mem_or_eq_of_mem_set hc with hc | rfl
    ·have:=ih c hc;omega
    ·simp only [lastIs,decide_eq_true_eq] at hlast
     have hm:(X (busyT L t) ((busyT L t).length - 1))<=t:=by
      have hlt:(busyT L t).length - 1 < (busyT L t).length:=by omega
      have:=(ih _ (List.getElem_mem hlt)).1
      simpa [X,List.getD_eq_getElem?_getD,hlt] using this
     constructor <;> simp <;> omega
   ·rcases List.mem_append.1 hc with hc | hc
    ·have:=ih c hc;omega
    ·simp at hc;subst hc;constructor <;> simp <;> omega
theorem flat_len (B:List (Int×Int)):(rows B).flatten.length=2 * B.length:=by
 induction B with
 | nil=>rfl
 | cons c B ih=>simp only [rows,List.map_cons,List.flatten_cons,List.length_append,List.length_cons,List.length_nil] at ih ⊢;omega
theorem small_busy (L:List (Int×Int)):smallL (rowB L):=by
 have hb:=busyP_len L
 refine small_mem (by rw [rowB,flat_len];omega) (fun v hv=>?_)
 obtain ⟨r,hr,hv⟩:=List.mem_flatten.1 hv
 simp only [rows,List.mem_map] at hr
 obtain ⟨c,hc,rfl⟩:=hr
 have hbd:c.1<=200∧c.2<=200:=by
  unfold busyP at hc
  split at hc
  ·exact busyT_small L 200 c hc
  ·simp at hc
 simp at hv
 rcases hv with rfl | rfl <;> omega
theorem need_small {L:List (Int×Int)} (h:cOk L=true):0<=needOf L∧needOf L<=1000:=by
 have hl:=cOk_len h
 have:=sumTo_bd h L.length (Nat.le_refl _)
 rw [needOf,if_pos h];omega
theorem idle_small {L:List (Int×Int)} (h:cOk L=true):0<=idleV L∧idleV L<=1000:=by
 have:=idleTo_bd h L.length (Nat.le_refl _)
 rw [idleV,if_pos h];omega
theorem least_sum {L:List (Int×Int)} (h:cOk L=true):leastV L=sumV L (orderR L 2)∧0<=leastV L∧leastV L<=2000:=by
 have ho:=order_ok7 (L:=L) (r:=2) (by simp [byOk,h])
 have e:leastV L=tmTo L (orderR L 2) L.length:=if_pos h
 have hb:=tmTo_bd ho L.length (Nat.le_refl _)
 have:=leastV_bd L
 exact ⟨by rw [e,sumV,if_pos ho],by rw [e];exact hb.1,this.2⟩
theorem sum_small (L:List (Int×Int)) (o:List Int):sumV L o<=1000000000:=by
 unfold sumV
 split
 ·rename_i h
  have hl:=cOk_len (ordOk_parts h).1
  have:=tmTo_bd h L.length (Nat.le_refl _)
  omega
 ·omega
theorem work_small (L:List (Int×Int)) (t:Int):workV L t<=1000000000:=by
 unfold workV
 split
 ·rename_i h
  simp only [momentOk,Bool.and_eq_true] at h
  have:=wk_bd h.1 t.toNat
  omega
 ·omega
theorem waitsum_small (L:List (Int×Int)) (c:Int):waitSumV L c<=1000000000:=by
 unfold waitSumV
 split
 ·rename_i h
  have hp:=besOk_parts h
  have hl:=cOk_len hp.1
  have:=waitS_bd hp.1 (c:=c.toNat) (by omega) L.length (Nat.le_refl _)
  omega
 ·omega
def deskLine (D:KV) (s:List UInt8):KV×List UInt8 :=
 if deskOk D=true then match readD s with
  | some d=>((deskDo D d).1,if (deskDo D d).2=true then wOk else wNot)
  | none=>(D,askL D.now s)
 else (noK,[])
theorem line_no {D:KV} {s:List UInt8} (h:deskOk D=false):deskLine D s=(noK,[]):=by rw [deskLine,if_neg (by simp [h])]
theorem line_deed {D:KV} {s:List UInt8} {d:DV} (h:deskOk D=true) (hd:readD s=some d):deskLine D s=((deskDo D d).1,if (deskDo D d).2=true then wOk else wNot):=by rw [deskLine,if_pos h,hd]
theorem line_ask {D:KV} {s:List UInt8} (h:deskOk D=true) (hd:readD s=none):deskLine D s=(D,askL D.now s):=by rw [deskLine,if_pos h,hd]
theorem line_text {D:KV} {d:DV} (h:deskOk D=true) (hd:deedL d≠[]):(deskLine D (deedL d)).1=(runTo D [d]).1∧((deskLine D (deedL d)).2=wOk∨(deskLine D (deedL d)).2=wNot):=by
 rw [line_deed h (deed_read d hd)]
 have e:runTo D [d]=if (deskDo D d).2=true then ((deskDo D d).1,0+1) else (D,0):=rfl
 by_cases h2:(deskDo D d).2=true
 ·rw [e,if_pos h2];simp [h2]
 ·rw [e,if_neg h2];simp [h2,deskDo_not h (by simpa using h2)]
end
section
attribute [local go_sem ↓] Go.wp_at_zero Go.wp_at_succ
def LineP (D:KV) (s:List UInt8) (w:World) (e:Ending) (w':World):Prop :=
 ∃ vn vp vs,e=.returned (.tuple #[.agg #[vn,vp],.string (bs (deskLine D s).2)])∧KO w' w.heap.size vn vp (deskLine D s).1 vs∧Below w.heap.size w w'
end
section
def QO (w:World) (base:Nat) (v:Value) (xs:List Int):Prop :=
 ∃ g off c,v=.slice (some ⟨g,off,none⟩) xs.length c∧xs.length<=c∧c<=maxLen∧base<=g∧g < w.heap.size∧(∀ j,j < xs.length->w.cell? ⟨g,off+j,none⟩=some (.int .i64 (Z xs j))) ∧
  ∀ j,j < c->(w.cell? ⟨g,off+j,none⟩).isSome=true∧w.frozen? ⟨g,off+j,none⟩=false
theorem QO.empty (w:World) {base:Nat} (h:base<=w.heap.size):QO (w.alloc (.cells #[] 3)) base (.slice (some ⟨w.heap.size,0,none⟩) 0 0) [] :=
 ⟨w.heap.size,0,0,rfl,Nat.le_refl _,by simp [maxLen],h,by simp,fun j hj=>by simp at hj,fun j hj=>by omega⟩
theorem QO.kept {w w':World} {base:Nat} {row:Option Nat} {v:Value} {xs:List Int} (h:QO w base v xs) (hg:w.grownBy w' row) (hr:∀ r,v.ownBlock=some r->row≠some r):QO w' base v xs:=by
 obtain ⟨g,off,c,rfl,h1,h2,h3,h4,h5,h6⟩:=h
 have hb:∀ o,(w'.heap[(⟨g,o,none⟩:Addr).block]?)=w.heap[(⟨g,o,none⟩:Addr).block]?:=fun o=>hg.block g h4 fun e=>hr g (by simp [Value.ownBlock]) e.symm
 exact ⟨g,off,c,rfl,h1,h2,h3,Nat.lt_of_lt_of_le h4 hg.size,fun j hj=>(World.cell?_of_block (hb _)).trans (h5 j hj),fun j hj=>by
  have:=h6 j hj
  rw [World.cell?_of_block (hb _),World.frozen?_of_block (hb _)]
  exact this⟩
theorem QO.below {w w':World} {base B:Nat} {v:Value} {xs:List Int} (h:QO w base v xs) (hb:Below B w w') (hB:w.heap.size<=B):QO w' base v xs :=
 h.kept (row:=none) ⟨hb.os,hb.tape,hb.output,hb.size,fun k hk _=>hb.block k (by omega)⟩ (fun _ _ e=>by cases e)
theorem QO.drewN {w:World} {base:Nat} {v:Value} {xs:List Int} (h:QO w base v xs) (n:Nat):QO (w.drewN n) base v xs:=h
theorem QO.alloc {w:World} {base:Nat} {v:Value} {xs:List Int} (h:QO w base v xs) (o:Obj):QO (w.alloc o) base v xs :=
 h.kept (row:=none) (World.grownBy_alloc _ _ _) (fun _ _ e=>by cases e)
theorem QO.form {w:World} {base:Nat} {v:Value} {xs:List Int} (h:QO w base v xs):∃ g off c,v=.slice (some ⟨g,off,none⟩) xs.length c∧xs.length<=c∧base<=g∧g < w.heap.size∧∀ j,j < xs.length->w.cell? ⟨g,off+j,none⟩=some (.int .i64 (Z xs j)):=by
 obtain ⟨g,off,c,e,h1,h2,h3,h4,h5,h6⟩:=h
 exact ⟨g,off,c,e,h1,h3,h4,h5⟩
theorem QO.cut {w:World} {base g off n c:Nat} {x:Int} {xs:List Int} (h:QO w base (.slice (some ⟨g,off,none⟩) n c) (x::xs)):n=xs.length+1∧1<=c ∧
  QO w base (.slice (if c=1 then some ⟨g,off,none⟩ else some ⟨g,off+1,none⟩) xs.length (c - 1)) xs:=by
 obtain ⟨g',off',c',e,h1,h2,h3,h4,h5,h6⟩:=h
 injection e with e1 e2 e3
 injection e1 with e1
 injection e1 with e1 e4 _
 subst e1 e2 e3 e4
 refine ⟨rfl,by simp at h1;omega,?_⟩
 simp only [List.length_cons] at h1 h5
 by_cases hc:c=1
 ·rw [if_pos hc]
  have hx:xs=[]:=List.eq_nil_of_length_eq_zero (by omega)
  subst hx
  exact ⟨g,off,c - 1,rfl,by simp,by omega,h3,h4,fun j hj=>by simp at hj,fun j hj=>by omega⟩
 ·rw [if_neg hc]
  refine ⟨g,off+1,c - 1,rfl,by omega,by omega,h3,h4,fun j hj=>?_,fun j hj=>?_⟩
  ·have:=h5 (j+1) (by omega)
   rw [show off+1+j=off+(j+1) by omega,this]
   simp [Z]
  ·rw [show off+1+j=off+(j+1) by omega]
   exact h6 (j+1) (by omega)
section
variable {w:World}
end
end
section
attribute [local go_sem ↓] Go.wp_at_zero Go.wp_at_succ
def rowK (L:List (Int×Int)) (t k:Nat):List Int:=rrRow L t++backR (rrLf L t) (rrB L t)++newC L t k
theorem rowK_all (L:List (Int×Int)) (t:Nat):rowK L t L.length=rrQ L t:=rfl
theorem rowK_yes {L:List (Int×Int)} {t k:Nat} (h:X L k=t):rowK L t (k+1)=rowK L t k++[(k:Int)]:=by simp only [rowK,newC,if_pos h,List.append_assoc]
theorem rowK_no {L:List (Int×Int)} {t k:Nat} (h:X L k≠t):rowK L t (k+1)=rowK L t k:=by simp only [rowK,newC,if_neg h]
theorem rowK_zero {L:List (Int×Int)} {t:Nat} {b:Int} (e:rrB L t=b) (h:0<=b∧0 < Z (rrLf L t) b.toNat):rowK L t 0=rrRow L t++[b]:=by simp [rowK,newC,backR,e,h]
theorem rowK_zero' {L:List (Int×Int)} {t:Nat} (h:¬ (0<=rrB L t∧0 < Z (rrLf L t) (rrB L t).toNat)):rowK L t 0=rrRow L t:=by simp only [rowK,newC,backR,if_neg h,List.append_nil]
theorem rrB_cases {L:List (Int×Int)} (hc:cOk L=true) (t:Nat):rrB L t=-1∨∃ p:Nat,rrB L t=p∧p < L.length:=by
 cases t with
 | zero=>exact .inl rfl
 | succ t =>
  obtain ⟨inv,_,hm⟩:=rr_inv hc t
  rcases rr_picks inv hm with ⟨e,_⟩ | ⟨p,e,hp,_⟩
  ·exact .inl e
  ·exact .inr ⟨p,e,hp⟩
end
section
attribute [local go_sem ↓] Go.wp_at_zero Go.wp_at_succ
theorem counter_nat {c:Int} (h:1<=c∧c<=4):∃ n:Nat,c=(n:Int)∧1<=n∧n<=4∧c.toNat=n:=⟨c.toNat,by omega,by omega,by omega,rfl⟩
end
section
attribute [local go_sem ↓] Go.wp_at_zero Go.wp_at_succ
theorem KO.apart {w:World} {base r:Nat} {vn vp:Value} {D:KV} {vs:List Value} (h:KO w base vn vp D vs) (hr:r < base∨w.heap.size<=r):vn.ownBlock≠some r∧vp.ownBlock≠some r∧∀ k,k < D.past.length->(vs.getD k undef).ownBlock≠some r:=by
 refine ⟨fun e=>?_,fun e=>?_,fun k hk e=>?_⟩
 ·have h1:=owns_base h.now r e
  have h2:=owns_lt h.now r e
  omega
 ·have:=h.past.base_lt r e
  omega
 ·have hi:=h.past.inner k hk
  have h1:=owns_base hi r e
  have h2:=owns_lt hi r e
  omega
section
variable {w:World}
end
end
section
def lowL (xs:List Int):Prop:=∀ k,k < xs.length→-1≤Z xs k
theorem low_nil:lowL []:=fun k hk=>by simp at hk
theorem low_mem {xs:List Int} (h2:∀ v ∈ xs,-1<=v):lowL xs:=fun k hk=>h2 _ (by rw [Z_get hk];exact List.getElem_mem _)
theorem low_ord {L:List (Int×Int)} {o:List Int} (h:ordOk L o=true):lowL o:=fun k hk=>by
 have p:=ordOk_parts h
 rcases unitOk_cases (unitsOk_at _ p.2.2.1 k hk) with e | ⟨q,e,hq,-,-⟩ <;> rw [e] <;> omega
theorem low_order (L:List (Int×Int)) (r:Int):lowL (orderR L r):=by
 cases h:byOk L r with
 | true=>exact low_ord (order_ok7 h)
 | false=>rw [orderR_no h];exact low_nil
theorem low_rounds {L:List (Int×Int)} (h:cOk L=true):lowL (roundR L):=by
 obtain ⟨T,hT,-⟩:=lastLeave_nat h
 rw [roundR,if_pos h,hT,Int.toNat_natCast]
 exact low_ord (rr_ok h hT)
theorem low_waits {L:List (Int×Int)} (h:cOk L=true):lowL (waits L):=by
 rw [waits,if_pos h]
 intro k hk
 rw [waitsTo_len] at hk
 have e:Z (waitsTo L L.length) k=waitAt L k:=by simp [Z,waitsTo,hk]
 have:=waitAt_bd h k hk
 rw [e];omega
theorem low_leaves {L:List (Int×Int)} (h:cOk L=true):lowL (leaves L):=by
 rw [leaves,if_pos h]
 intro k hk
 rw [leavesTo_len] at hk
 have e:Z (leavesTo L L.length) k=leaveAt L k:=by simp [Z,leavesTo,hk]
 have:=leaveAt_bd h hk
 rw [e];omega
theorem low_last {L:List (Int×Int)} (h:cOk L=true):lowL (lastR L):=by
 have ho:=order_ok7 (L:=L) (r:=1) (by simp [byOk,h])
 rw [lastR,timesR_yes ho]
 intro k hk
 rw [timeL_len] at hk
 have:=time_bd ho hk
 have hb:=cOk_bd h hk
 rw [timeL_Z hk];omega
theorem busyT_low (L:List (Int×Int)):∀ t,∀ c ∈ busyT L t,0<=c.1∧0<=c.2:=by
 intro t
 induction t with
 | zero=>intro c hc;simp [busyT] at hc
 | succ t ih =>
  intro c hc
  simp only [busyT] at hc
  split at hc
  ·exact ih c hc
  ·unfold busyNext at hc
   split at hc
   ·rename_i hlast
    rcases List.mem_or_eq_of_mem_set hc with hc | rfl
    ·exact ih c hc
    ·simp only [lastIs,decide_eq_true_eq] at hlast
     have hm:0<=(X (busyT L t) ((busyT L t).length - 1)):=by
      have hlt:(busyT L t).length - 1 < (busyT L t).length:=by omega
      have:=(ih _ (List.getElem_mem hlt)).1
      simpa [X,List.getD_eq_getElem?_getD,hlt] using this
     constructor <;> simp <;> omega
   ·rcases List.mem_append.1 hc with hc | hc
    ·exact ih c hc
    ·simp at hc;subst hc;constructor <;> simp <;> omega
theorem low_busy (L:List (Int×Int)):lowL (rowB L):=by
 refine low_mem (fun v hv=>?_)
 obtain ⟨r,hr,hv⟩:=List.mem_flatten.1 hv
 simp only [rows,List.mem_map] at hr
 obtain ⟨c,hc,rfl⟩:=hr
 have hbd:0<=c.1∧0<=c.2:=by
  unfold busyP at hc
  split at hc
  ·exact busyT_low L 200 c hc
  ·simp at hc
 simp at hv
 rcases hv with rfl | rfl <;> omega
theorem sum_low (L:List (Int×Int)) (o:List Int):-1<=sumV L o:=by
 unfold sumV
 split
 ·rename_i h
  have:=tmTo_bd h L.length (Nat.le_refl _)
  omega
 ·omega
theorem work_low (L:List (Int×Int)) (t:Int):-1<=workV L t:=by
 unfold workV
 split
 ·rename_i h
  simp only [momentOk,Bool.and_eq_true] at h
  have:=wk_bd h.1 t.toNat
  omega
 ·omega
theorem waitsum_low (L:List (Int×Int)) (c:Int):-1<=waitSumV L c:=by
 unfold waitSumV
 split
 ·rename_i h
  have hp:=besOk_parts h
  have:=waitS_bd hp.1 (c:=c.toNat) (by omega) L.length (Nat.le_refl _)
  omega
 ·omega
def txtN (x:Int):List UInt8:=if x < 0 then [46] else numL x.toNat
theorem join_snoc (sep z:List UInt8):∀ {l:List (List UInt8)},l≠[]->Lib.join (l++[z]) sep=Lib.join l sep++sep++z:=by
 intro l hl
 cases l with
 | nil=>exact absurd rfl hl
 | cons x r=>rw [List.cons_append,Lib.join_cons,Lib.join_cons];simp [Lib.joinTail]
theorem txts_take {xs:List Int} {k:Nat} (h:k < xs.length):(xs.take (k+1)).map txtN=(xs.take k).map txtN++[txtN (Z xs k)]:=by
 rw [Z_get h,<- List.take_append_getElem h,List.map_append];rfl
theorem row_join (xs:List Int):∀ k,k < xs.length->rowTo xs (k+1)=Lib.join ((xs.take (k+1)).map txtN) [44]:=by
 intro k
 induction k with
 | zero =>
  intro hk
  rw [txts_take hk,List.take_zero,List.map_nil,List.nil_append,Lib.join_one]
  simp [rowTo,txtN]
 | succ k ih =>
  intro hk
  have h0:(xs.take (k+1)).map txtN≠[]:=by
   have:((xs.take (k+1)).map txtN).length=k+1:=by rw [List.length_map,List.length_take];omega
   intro e;rw [e] at this;simp at this
  rw [txts_take hk,join_snoc _ _ h0,<- ih (by omega)]
  show rowTo xs (k+1)++(if 0 < k+1 then [44] else [])++(if Z xs (k+1) < 0 then [46] else numL (Z xs (k+1)).toNat)=_
  rw [if_pos (by omega)];rfl
theorem row_all {xs:List Int} (h:0 < xs.length):rowText xs=Lib.join (xs.map txtN) [44]:=by
 obtain ⟨n,hn⟩:∃ n,xs.length=n+1:=⟨xs.length - 1,by omega⟩
 have e:=row_join xs n (by omega)
 rw [<- hn,List.take_length] at e
 rw [rowText,if_neg (by omega),e]
theorem dig_no {v:List UInt8} (h:(32:UInt8) ∈ v):digOk v=false:=by
 cases e:digOk v with
 | false=>rfl
 | true =>
  have:=List.all_eq_true.1 (digOk_parts e).2.2 _ h
  simp [isD] at this
def NotWord (s:List UInt8):Prop:=s≠wMany∧s≠wWaits∧s≠wLeaves∧s≠wLast∧s≠wRounds∧s≠wBusy∧s≠wNeed∧s≠wLeast∧s≠wIdle
theorem ask_none {L:List (Int×Int)} {s:List UInt8} (h:NotWord s) (hn:(32:UInt8) ∉ s):askL L s=wWhat:=by
 obtain ⟨h1,h2,h3,h4,h5,h6,h7,h8,h9⟩:=h
 have hw:wordsOk (cutL 32 s)=false:=by rw [cutL_none hn];simp [wordsOk]
 rw [askL,if_neg h1,if_neg h2,if_neg h3,if_neg h4,if_neg h5,if_neg h6,if_neg h7,if_neg h8,if_neg h9,if_neg (by rw [hw];simp)]
theorem ask_two {L:List (Int×Int)} {s u v:List UInt8} (h:NotWord s) (hs:s=u++32::v) (hu:(32:UInt8) ∉ u):askL L s=if digOk v=true then askW L u (valN v:Int) else wWhat:=by
 obtain ⟨h1,h2,h3,h4,h5,h6,h7,h8,h9⟩:=h
 rw [askL,if_neg h1,if_neg h2,if_neg h3,if_neg h4,if_neg h5,if_neg h6,if_neg h7,if_neg h8,if_neg h9]
 have hc:cutL 32 s=u::cutL 32 v:=by rw [hs,cutL_at v hu]
 rw [hc]
 cases hd:digOk v with
 | true =>
  have hv:(32:UInt8) ∉ v:=fun e=>by rw [dig_no e] at hd;cases hd
  have hdl:digL v=(valN v:Int):=by rw [digL,if_pos hd]
  rw [cutL_none hv,if_pos (by simp [wordsOk,wordsOk.ZS2,hdl]),if_pos rfl]
  simp [hdl]
 | false =>
  rw [if_neg (show ¬ (false=true) by simp)]
  have hw:wordsOk (u::cutL 32 v)=false:=by
   by_cases hv:(32:UInt8) ∈ v
   ·rcases split_at 32 v with h | ⟨a,b,e,ha⟩
    ·exact absurd hv h
    ·have:(cutL 32 v).length≠1:=by
      have h0:0 < (cutL 32 b).length:=List.length_pos_iff.2 (show cutL 32 b≠[] by simp [cutL])
      rw [e,cutL_at b ha,List.length_cons];omega
     simp [wordsOk]
     omega
   ·rw [cutL_none hv]
    simp [wordsOk,wordsOk.ZS2,digL,hd]
  rw [if_neg (by rw [hw];simp)]
end
end Go.Proofs.YthpccmkagikhjaaGreatDoor

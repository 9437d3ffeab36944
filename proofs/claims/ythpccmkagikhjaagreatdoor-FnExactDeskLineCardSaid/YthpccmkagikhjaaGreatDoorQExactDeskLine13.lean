import Derived.Test.YthpccmkagikhjaaGreatDoorQExactDeskLine3
import Derived.Test.YthpccmkagikhjaaGreatDoorQExactDeskLine7
import Derived.Test.YthpccmkagikhjaaGreatDoorQExactDeskLine9
import Derived.Test.YthpccmkagikhjaaGreatDoorQExactDeskLine11
import Derived.Test.YthpccmkagikhjaaGreatDoorQExactDeskLine12
import Derived.ArgAppend
namespace Go.Proofs.YthpccmkagikhjaaGreatDoor
set_option linter.unusedVariables false
open Go.RowKit
set_option maxRecDepth 8000
set_option maxHeartbeats 8000000
section
def insF (e:Int):List Int->List Int
 | []=>[e]
 | f::t=>if f<=e then f::insF e t else e::f::t
def leC (t:Int):List Int->Nat
 | []=>0
 | f::r=>leC t r+(if f<=t then 1 else 0)
theorem insF_len (e:Int) (F:List Int):(insF e F).length=F.length+1:=by
 induction F with
 | nil=>rfl
 | cons f t ih=>simp only [insF];split <;> simp [ih]
theorem leC_ins (t e:Int) (F:List Int):leC t (insF e F)=leC t F+(if e<=t then 1 else 0):=by
 induction F with
 | nil=>simp [insF,leC]
 | cons f r ih =>
  simp only [insF]
  split
  ·simp only [leC,ih];omega
  ·simp only [leC]
theorem mem_insF {e v:Int} {F:List Int}:v ∈ insF e F ↔ v=e∨v ∈ F:=by
 induction F with
 | nil=>simp [insF]
 | cons f r ih =>
  simp only [insF]
  split
  ·simp only [List.mem_cons,ih]
   constructor
   ·rintro (h | h | h) <;> simp [h]
   ·rintro (h | h | h) <;> simp [h]
  ·simp only [List.mem_cons]
theorem insF_sorted {e:Int} {F:List Int} (h:F.Pairwise (·<=·)):(insF e F).Pairwise (·<=·):=by
 induction F with
 | nil=>simp [insF]
 | cons f r ih =>
  obtain ⟨h1,h2⟩:=List.pairwise_cons.1 h
  simp only [insF]
  split
  ·rename_i hc
   refine List.pairwise_cons.2 ⟨fun v hv=>?_,ih h2⟩
   rcases mem_insF.1 hv with rfl | hv
   ·exact hc
   ·exact h1 v hv
  ·rename_i hc
   refine List.pairwise_cons.2 ⟨fun v hv=>?_,h⟩
   rcases List.mem_cons.1 hv with rfl | hv
   ·omega
   ·have:=h1 v hv;omega
theorem leC_none {t:Int} {F:List Int} (h:∀ v,v ∈ F->t < v):leC t F=0:=by
 induction F with
 | nil=>rfl
 | cons f r ih =>
  have:=h f (by simp)
  simp only [leC,ih (fun v hv=>h v (by simp [hv]))]
  rw [if_neg (by omega)]
theorem head_le {F:List Int} (hs:F.Pairwise (·<=·)) (hn:F≠[]) (t:Int):F.headD 0<=t ↔ 1<=leC t F:=by
 cases F with
 | nil=>exact absurd rfl hn
 | cons f r =>
  obtain ⟨h1,h2⟩:=List.pairwise_cons.1 hs
  simp only [List.headD_cons,leC]
  constructor
  ·intro h;rw [if_pos h];omega
  ·intro h
   by_cases hc:f<=t
   ·exact hc
   ·rw [leC_none (fun v hv=>by have:=h1 v hv;omega),if_neg hc] at h;omega
theorem tail_le {F:List Int} (hs:F.Pairwise (·<=·)) (t:Int):leC t F.tail=leC t F - 1:=by
 cases F with
 | nil=>rfl
 | cons f r =>
  obtain ⟨h1,h2⟩:=List.pairwise_cons.1 hs
  simp only [List.tail_cons,leC]
  by_cases hc:f<=t
  ·rw [if_pos hc];omega
  ·rw [leC_none (fun v hv=>by have:=h1 v hv;omega),if_neg hc]
def bgnOf (F:List Int) (x:Int):Int:=max (F.headD 0) x
def freeK (L:List (Int×Int)) (c:Nat):Nat->List Int
 | 0=>List.replicate c 0
 | k+1=>insF (bgnOf (freeK L c k) (X L k)+Y L k) (freeK L c k).tail
def bgn (L:List (Int×Int)) (c k:Nat):Int:=bgnOf (freeK L c k) (X L k)
theorem freeK_succ (L:List (Int×Int)) (c k:Nat):freeK L c (k+1)=insF (bgn L c k+Y L k) (freeK L c k).tail:=rfl
theorem freeK_len (L:List (Int×Int)) {c:Nat} (hc:1<=c):∀ k,(freeK L c k).length=c:=by
 intro k
 induction k with
 | zero=>simp [freeK]
 | succ k ih=>rw [freeK,insF_len,List.length_tail,ih];omega
theorem freeK_ne (L:List (Int×Int)) {c:Nat} (hc:1<=c) (k:Nat):freeK L c k≠[]:=by
 intro e;have:=freeK_len L hc k;rw [e] at this;simp at this;omega
theorem freeK_sorted (L:List (Int×Int)) (c:Nat):∀ k,(freeK L c k).Pairwise (·<=·):=by
 intro k
 induction k with
 | zero=>exact List.pairwise_replicate.2 (Or.inr (Int.le_refl _))
 | succ k ih=>exact insF_sorted (ih.tail)
theorem free_dom {L M:List (Int×Int)} {c d n:Nat} (hc:1<=c) (hcd:c<=d) (hX:∀ k,k < n->X M k=X L k) (hY:∀ k,k < n->Y M k<=Y L k) :
  ∀ k,k<=n->(∀ t,leC t (freeK L c k)<=leC t (freeK M d k))∧(k < n->bgn M d k<=bgn L c k):=by
 have key:∀ k,(∀ t,leC t (freeK L c k)<=leC t (freeK M d k))->k < n->bgn M d k<=bgn L c k:=by
  intro k hd hk
  have h1:=(head_le (freeK_sorted L c k) (freeK_ne L hc k) ((freeK L c k).headD 0)).1 (Int.le_refl _)
  have h2:=(head_le (freeK_sorted M d k) (freeK_ne M (by omega) k) ((freeK L c k).headD 0)).2 (by have:=hd ((freeK L c k).headD 0);omega)
  simp only [bgn,bgnOf,hX k hk];omega
 have dom:∀ k,k<=n->∀ t,leC t (freeK L c k)<=leC t (freeK M d k):=by
  intro k
  induction k with
  | zero =>
   intro _ t
   have:∀ m,leC t (List.replicate m 0)=if 0<=t then m else 0:=by
    intro m
    induction m with
    | zero=>simp [leC]
    | succ m ih=>simp only [List.replicate_succ,leC,ih];split <;> omega
   simp only [freeK,this];split <;> omega
  | succ k ih =>
   intro hk t
   have i:=ih (by omega)
   have b:=key k i (by omega)
   have y:=hY k (by omega)
   rw [freeK_succ,freeK_succ,leC_ins,leC_ins,tail_le (freeK_sorted L c k),tail_le (freeK_sorted M d k)]
   have:=i t
   split <;> split <;> omega
 intro k hk
 exact ⟨dom k hk,key k (dom k hk)⟩
theorem bgn_come (L:List (Int×Int)) (c k:Nat):X L k<=bgn L c k:=by simp only [bgn,bgnOf];omega
theorem bgn_one {L:List (Int×Int)} (h:cOk L=true):∀ k,k < L.length->bgn L 1 k=X L k+waitAt L k:=by
 have key:∀ k,k < L.length->freeK L 1 k=[if k=0 then 0 else leaveAt L (k - 1)]∧bgn L 1 k=X L k+waitAt L k:=by
  intro k
  induction k with
  | zero =>
   intro hk
   have:=cOk_bd h hk
   refine ⟨rfl,?_⟩
   simp only [bgn,bgnOf,freeK,waitAt,List.replicate_succ,List.headD_cons];omega
  | succ k ih =>
   intro hk
   obtain ⟨i1,i2⟩:=ih (by omega)
   have e:freeK L 1 (k+1)=[leaveAt L k]:=by rw [freeK_succ,i1,i2];simp [insF,leaveAt]
   refine ⟨by rw [e];simp,?_⟩
   simp only [bgn,bgnOf,e,List.headD_cons,waitAt,leaveAt];omega
 exact fun k hk=>(key k hk).2
theorem bgn_last {L:List (Int×Int)} (h:cOk L=true) {c:Nat} (hc:1<=c) {k:Nat} (hk:k < L.length):bgn L c k+Y L k<=lastLeave L:=by
 have d:=(free_dom (L:=L) (M:=L) (c:=1) (d:=c) (n:=L.length) (Nat.le_refl _) hc (fun _ _=>rfl) (fun _ _=>Int.le_refl _) k (by omega)).2 hk
 rw [bgn_one h k hk] at d
 have e:=leaveAt_fwd h k hk
 have m:=fwd_mono h (i:=k+1) (j:=L.length) (by omega) (Nat.le_refl _)
 rw [lastLeave_fwd h]
 simp only [leaveAt] at e;omega
theorem bgn_bd {L:List (Int×Int)} (h:cOk L=true) {c:Nat} (hc:1<=c) {k:Nat} (hk:k < L.length):0<=bgn L c k∧bgn L c k<=200:=by
 have a:=bgn_come L c k
 have b:=cOk_bd h hk
 have l:=bgn_last h hc hk
 have m:=lastLeave_bd h
 omega
theorem freeK_bd {L:List (Int×Int)} (h:cOk L=true) {c:Nat} (hc:1<=c):∀ k,k<=L.length->∀ v,v ∈ freeK L c k->0<=v∧v<=300:=by
 intro k
 induction k with
 | zero=>intro _ v hv;have:=List.eq_of_mem_replicate hv;omega
 | succ k ih =>
  intro hk v hv
  rw [freeK_succ] at hv
  rcases mem_insF.1 hv with rfl | hv
  ·have:=bgn_bd h hc (k:=k) (by omega)
   have:=cOk_bd h (k:=k) (by omega)
   omega
  ·exact ih (by omega) v (List.mem_of_mem_tail hv)
def waitS (L:List (Int×Int)) (c:Nat):Nat->Int
 | 0=>0
 | k+1=>waitS L c k+bgn L c k - X L k
theorem waitS_bd {L:List (Int×Int)} (h:cOk L=true) {c:Nat} (hc:1<=c):∀ k,k<=L.length->0<=waitS L c k∧waitS L c k<=200 * k:=by
 intro k
 induction k with
 | zero=>intro _;simp [waitS]
 | succ k ih =>
  intro hk
  have:=ih (by omega)
  have:=bgn_come L c k
  have:=bgn_bd h hc (k:=k) (by omega)
  have:=cOk_bd h (k:=k) (by omega)
  simp only [waitS];omega
def besOk (L:List (Int×Int)) (c:Int):Bool:=cOk L && decide (1<=c∧c<=4)
theorem besOk_parts {L:List (Int×Int)} {c:Int} (h:besOk L c=true):cOk L=true∧1<=c∧c<=4:=by simpa [besOk] using h
def beginsTo (L:List (Int×Int)) (c k:Nat):List Int:=(List.range k).map (bgn L c)
theorem beginsTo_len (L:List (Int×Int)) (c k:Nat):(beginsTo L c k).length=k:=by simp [beginsTo]
theorem beginsTo_succ (L:List (Int×Int)) (c k:Nat):beginsTo L c (k+1)=beginsTo L c k++[bgn L c k]:=by simp [beginsTo,List.range_succ]
theorem beginsTo_Z {L:List (Int×Int)} {c n k:Nat} (h:k < n):Z (beginsTo L c n) k=bgn L c k:=by simp [Z,beginsTo,h]
def beginsV (L:List (Int×Int)) (c:Int):List Int:=if besOk L c=true then beginsTo L c.toNat L.length else []
theorem beginsV_yes {L:List (Int×Int)} {c:Int} (h:besOk L c=true):beginsV L c=beginsTo L c.toNat L.length:=if_pos h
theorem beginsV_no {L:List (Int×Int)} {c:Int} (h:besOk L c=false):beginsV L c=[]:=by simp [beginsV,h]
def waitSumV (L:List (Int×Int)) (c:Int):Int:=if besOk L c=true then waitS L c.toNat L.length else -1
theorem waitSumV_yes {L:List (Int×Int)} {c:Int} (h:besOk L c=true):waitSumV L c=waitS L c.toNat L.length:=if_pos h
theorem waitSumV_no {L:List (Int×Int)} {c:Int} (h:besOk L c=false):waitSumV L c=-1:=by simp [waitSumV,h]
end
section
def picked (L:List (Int×Int)) (t:Nat) (lf:List Int) (w:Int):Prop:=(w=-1∧wk L t=0)∨(∃ p:Nat,w=p∧p < L.length∧X L p<=t∧0 < Z lf p∧wk L t≠0)
theorem OI.nextW {L:List (Int×Int)} (hc:cOk L=true) {t:Nat} {lf:List Int} (h:OI L t lf) {w:Int} (hp:picked L t lf w):OI L (t+1) (stepL lf w):=by
 have hw:wk L (t+1)=max (wk L t - 1) 0+arr L ((t:Int)+1):=rfl
 have hwn:=wk_nn hc t
 rcases hp with ⟨e,h0⟩ | ⟨p,e,hp,hx,hz,hne⟩
 ·rw [e]
  have es:stepL lf (-1)=lf:=by simp [stepL]
  rw [es]
  have late:∀ k,k < L.length->(t:Int)+1<=X L k->Z lf k=Y L k:=fun k hk hk2=>h.late k hk (by omega)
  refine ⟨h.len,h.rng,fun k hk hk2=>late k hk (by omega),?_⟩
  rw [show ((t+1:Nat):Int)=(t:Int)+1 by omega,thereTo_next late _ (Nat.le_refl _),h.sum,hw,h0]
  unfold arr;omega
 ·rw [e]
  have es:stepL lf (p:Int)=lf.set p (Z lf p - 1):=by simp [stepL]
  rw [es]
  have hl:p < lf.length:=by rw [h.len];exact hp
  have late:∀ k,k < L.length->(t:Int)+1<=X L k->Z (lf.set p (Z lf p - 1)) k=Y L k:=fun k hk hk2=>by
   rw [Z_set hl,if_neg (by intro e2;subst e2;omega)]
   exact h.late k hk (by omega)
  refine ⟨by rw [List.length_set];exact h.len,fun k hk=>?_,fun k hk hk2=>late k hk (by omega),?_⟩
  ·rw [Z_set hl]
   have r:=h.rng k hk
   split
   ·rename_i e2;subst e2;omega
   ·exact r
  ·rw [show ((t+1:Nat):Int)=(t:Int)+1 by omega,thereTo_next late _ (Nat.le_refl _),thereTo_set hl,if_pos ⟨hp,hx⟩,h.sum,hw]
   unfold arr;omega
theorem OI.first {L:List (Int×Int)} (hc:cOk L=true):OI L 0 (needs L):=by
 refine ⟨needs_len L,fun k hk=>?_,fun k hk _=>needs_Z hk,thereTo_first hc _ (Nat.le_refl _)⟩
 have bd:=cOk_bd hc hk
 rw [needs_Z hk];omega
def ordF (W:Nat->Int) (n:Nat):List Int:=(List.range n).map W
theorem ordF_len (W:Nat->Int) (n:Nat):(ordF W n).length=n:=by simp [ordF]
theorem ordF_succ (W:Nat->Int) (n:Nat):ordF W (n+1)=ordF W n++[W n]:=by simp [ordF,List.range_succ]
theorem ordF_Z {W:Nat->Int} {n k:Nat} (h:k < n):Z (ordF W n) k=W k:=by simp [Z,ordF,h]
section
variable {L:List (Int×Int)} {W:Nat->Int} {lf:Nat->List Int}
theorem leftOf_F (h0:lf 0=needs L) (h1:∀ t,lf (t+1)=stepL (lf t) (W t)) (n:Nat):∀ t,t<=n->leftOf L (ordF W n) t=lf t:=by
 intro t
 induction t with
 | zero=>intro _;exact h0.symm
 | succ t ih=>intro h;simp only [leftOf,h1,ih (by omega),ordF_Z (W:=W) (n:=n) (k:=t) (by omega)]
theorem OI.all (hc:cOk L=true) (h0:lf 0=needs L) (h1:∀ t,lf (t+1)=stepL (lf t) (W t)) (hp:∀ t,OI L t (lf t)->picked L t (lf t) (W t)):∀ t,OI L t (lf t):=by
 intro t
 induction t with
 | zero=>rw [h0];exact OI.first hc
 | succ t ih=>rw [h1];exact ih.nextW hc (hp t ih)
theorem OI.end (hc:cOk L=true) {T:Nat} (hT:lastLeave L<=T) {lf:List Int} (inv:OI L T lf) {k:Nat} (hk:k < L.length):Z lf k=0:=by
 have h0:=wk_end hc hT
 have r:=inv.rng k hk
 have hx:X L k<=T:=by
  have f:=fwd_mono hc (i:=k+1) (j:=L.length) (by omega) (Nat.le_refl _)
  have bd:=cOk_bd hc hk
  rw [lastLeave_fwd hc] at hT
  simp only [fwd] at f
  omega
 refine Classical.byContradiction fun hne=>?_
 have:=thereTo_pos (lf:=lf) hx (by omega) L.length hk (fun j hj=>(inv.rng j hj).1)
 rw [inv.sum] at this
 omega
theorem ordF_ok (hc:cOk L=true) (h0:lf 0=needs L) (h1:∀ t,lf (t+1)=stepL (lf t) (W t)) (hp:∀ t,OI L t (lf t)->picked L t (lf t) (W t)) {T:Nat} (hT:lastLeave L=T):ordOk L (ordF W T)=true:=by
 have hb:=lastLeave_bd hc
 have inv:=OI.all hc h0 h1 hp
 simp only [ordOk,Bool.and_eq_true,decide_eq_true_eq,ordF_len]
 refine ⟨⟨⟨hc,by omega⟩,unitsOk_of _ fun t ht=>unitOk_of ?_⟩,noneLeft_of _ fun k hk=>?_⟩
 ·rw [ordF_Z ht,leftOf_F h0 h1 T t (by omega)]
  rcases hp t (inv t) with ⟨e,_⟩ | ⟨p,e,hp,hx,hz,_⟩
  ·exact .inl e
  ·exact .inr ⟨p,e,hp,hx,by omega⟩
 ·rw [leftOf_F h0 h1 T T (Nat.le_refl _),OI.end hc (by omega) (inv T) hk]
  exact Int.le_refl _
end
def newC (L:List (Int×Int)) (t:Int):Nat->List Int
 | 0=>[]
 | k+1=>if X L k=t then newC L t k++[(k:Int)] else newC L t k
def backR (lf:List Int) (b:Int):List Int:=if 0<=b∧0 < Z lf b.toNat then [b] else []
def rrS (L:List (Int×Int)):Nat->List Int×List Int×Int
 | 0=>([],needs L,-1)
 | t+1 =>
  let q:=(rrS L t).1++backR (rrS L t).2.1 (rrS L t).2.2++newC L t L.length
  (q.tail,stepL (rrS L t).2.1 (q.headD (-1)),q.headD (-1))
def rrRow (L:List (Int×Int)) (t:Nat):List Int:=(rrS L t).1
def rrLf (L:List (Int×Int)) (t:Nat):List Int:=(rrS L t).2.1
def rrB (L:List (Int×Int)) (t:Nat):Int:=(rrS L t).2.2
def rrQ (L:List (Int×Int)) (t:Nat):List Int:=rrRow L t++backR (rrLf L t) (rrB L t)++newC L t L.length
def rrW (L:List (Int×Int)) (t:Nat):Int:=(rrQ L t).headD (-1)
theorem rrRow_succ (L:List (Int×Int)) (t:Nat):rrRow L (t+1)=(rrQ L t).tail:=rfl
theorem rrLf_zero (L:List (Int×Int)):rrLf L 0=needs L:=rfl
theorem rrLf_succ (L:List (Int×Int)) (t:Nat):rrLf L (t+1)=stepL (rrLf L t) (rrW L t):=rfl
theorem rrB_succ (L:List (Int×Int)) (t:Nat):rrB L (t+1)=rrW L t:=rfl
theorem newC_mem {L:List (Int×Int)} {t v:Int}:∀ {n},v ∈ newC L t n ↔ ∃ p:Nat,v=p∧p < n∧X L p=t:=by
 intro n
 induction n with
 | zero=>simp [newC]
 | succ n ih =>
  simp only [newC]
  split
  ·rename_i hc
   rw [List.mem_append,ih,List.mem_singleton]
   constructor
   ·rintro (⟨p,e,h1,h2⟩ | h)
    ·exact ⟨p,e,by omega,h2⟩
    ·exact ⟨n,h,by omega,hc⟩
   ·rintro ⟨p,e,h1,h2⟩
    by_cases hp:p=n
    ·subst hp;exact .inr e
    ·exact .inl ⟨p,e,by omega,h2⟩
  ·rename_i hc
   rw [ih]
   constructor
   ·rintro ⟨p,e,h1,h2⟩;exact ⟨p,e,by omega,h2⟩
   ·rintro ⟨p,e,h1,h2⟩
    by_cases hp:p=n
    ·subst hp;exact absurd h2 hc
    ·exact ⟨p,e,by omega,h2⟩
theorem newC_nodup (L:List (Int×Int)) (t:Int):∀ n,(newC L t n).Nodup:=by
 intro n
 induction n with
 | zero=>simp [newC]
 | succ n ih =>
  simp only [newC]
  split
  ·refine List.nodup_append.2 ⟨ih,by simp,fun a ha b hb=>?_⟩
   obtain ⟨p,rfl,hp,_⟩:=newC_mem.1 ha
   rw [List.mem_singleton.1 hb];omega
  ·exact ih
theorem newC_len (L:List (Int×Int)) (t:Int):∀ n,(newC L t n).length<=n:=by
 intro n
 induction n with
 | zero=>simp [newC]
 | succ n ih=>simp only [newC];split <;> (try simp only [List.length_append,List.length_singleton]) <;> omega
def rrIn (L:List (Int×Int)) (lf:List Int) (t:Nat) (v:Int):Prop:=∃ p:Nat,v=p∧p < L.length∧X L p<=t∧0 < Z lf p
theorem rr_picks {L:List (Int×Int)} {t:Nat} (inv:OI L t (rrLf L t)) (hm:∀ v,v ∈ rrQ L t ↔ rrIn L (rrLf L t) t v):picked L t (rrLf L t) (rrW L t):=by
 cases hq:rrQ L t with
 | nil =>
  refine .inl ⟨by simp [rrW,hq],?_⟩
  rw [<- inv.sum]
  refine thereTo_none _ fun k hk=>?_
  have:=(hm (k:Int)).2
  rw [hq] at this
  have r:=inv.rng k hk
  by_cases hx:X L k<=t
  ·by_cases hz:0 < Z (rrLf L t) k
   ·exact absurd (this ⟨k,rfl,hk,hx,hz⟩) (by simp)
   ·right;omega
  ·left;omega
 | cons w r =>
  obtain ⟨p,e,hp,hx,hz⟩:=(hm w).1 (by rw [hq];simp)
  have hpos:=thereTo_pos (lf:=rrLf L t) hx hz L.length hp (fun k hk=>(inv.rng k hk).1)
  rw [inv.sum] at hpos
  exact .inr ⟨p,by simp [rrW,hq,e],hp,hx,hz,by omega⟩
theorem rr_inv {L:List (Int×Int)} (hc:cOk L=true):∀ t,OI L t (rrLf L t)∧(rrQ L t).Nodup∧∀ v,v ∈ rrQ L t ↔ rrIn L (rrLf L t) t v:=by
 intro t
 induction t with
 | zero =>
  have e:rrQ L 0=newC L 0 L.length:=by simp [rrQ,rrRow,rrS,rrB,backR]
  refine ⟨by rw [rrLf_zero];exact OI.first hc,by rw [e];exact newC_nodup _ _ _,fun v=>?_⟩
  rw [e,newC_mem,rrLf_zero]
  constructor
  ·rintro ⟨p,rfl,hp,hx⟩
   have:=cOk_bd hc hp
   exact ⟨p,rfl,hp,by omega,by rw [needs_Z hp];omega⟩
  ·rintro ⟨p,rfl,hp,hx,_⟩
   have:=cOk_bd hc hp
   exact ⟨p,rfl,hp,by omega⟩
 | succ t ih =>
  obtain ⟨inv,hnd,hm⟩:=ih
  have hp:=rr_picks inv hm
  have inv':OI L (t+1) (rrLf L (t+1)):=by rw [rrLf_succ];exact inv.nextW hc hp
  have eq:rrQ L (t+1)=(rrQ L t).tail++backR (rrLf L (t+1)) (rrW L t)++newC L ((t+1:Nat):Int) L.length:=rfl
  refine ⟨inv',?_⟩
  cases hq:rrQ L t with
  | nil =>
   have hw:rrW L t=-1:=by simp [rrW,hq]
   have hl:rrLf L (t+1)=rrLf L t:=by rw [rrLf_succ,hw];simp [stepL]
   have e:rrQ L (t+1)=newC L ((t+1:Nat):Int) L.length:=by rw [eq,hq,hw];simp [backR]
   refine ⟨by rw [e];exact newC_nodup _ _ _,fun v=>?_⟩
   rw [e,newC_mem,hl]
   constructor
   ·rintro ⟨p,rfl,hp,hx⟩
    have l:=inv.late p hp (by omega)
    have:=cOk_bd hc hp
    exact ⟨p,rfl,hp,by omega,by omega⟩
   ·rintro ⟨p,rfl,hp,hx,hz⟩
    refine ⟨p,rfl,hp,?_⟩
    by_cases h:X L p<=t
    ·have:=(hm (p:Int)).2 ⟨p,rfl,hp,h,hz⟩
     rw [hq] at this;cases this
    ·omega
  | cons w r =>
   have hw:rrW L t=w:=by simp [rrW,hq]
   rw [hq] at hnd hm
   obtain ⟨hwr,hr⟩:=List.nodup_cons.1 hnd
   obtain ⟨p0,rfl,hp0,hx0,hz0⟩:=(hm w).1 (by simp)
   have hll:p0 < (rrLf L t).length:=by rw [inv.len];exact hp0
   have hl:rrLf L (t+1)=(rrLf L t).set p0 (Z (rrLf L t) p0 - 1):=by rw [rrLf_succ,hw];simp [stepL]
   have hZ:∀ k,Z (rrLf L (t+1)) k=if p0=k then Z (rrLf L t) p0 - 1 else Z (rrLf L t) k:=fun k=>by rw [hl,Z_set hll]
   have hb:backR (rrLf L (t+1)) (p0:Int)=if 1 < Z (rrLf L t) p0 then [(p0:Int)] else []:=by
    simp only [backR,Int.toNat_natCast,hZ p0,if_pos]
    by_cases h:1 < Z (rrLf L t) p0
    ·rw [if_pos h,if_pos ⟨by omega,by omega⟩]
    ·rw [if_neg h,if_neg (by omega)]
   have e:rrQ L (t+1)=r++(if 1 < Z (rrLf L t) p0 then [(p0:Int)] else [])++newC L ((t+1:Nat):Int) L.length:=by rw [eq,hq,hw,hb];rfl
   have hold:∀ v,v ∈ r->∃ p:Nat,v=p∧p < L.length∧X L p<=t∧0 < Z (rrLf L t) p:=fun v hv=>(hm v).1 (by simp [hv])
   refine ⟨?_,fun v=>?_⟩
   ·rw [e]
    refine List.nodup_append.2 ⟨List.nodup_append.2 ⟨hr,by split <;> simp,fun a ha b hb2=>?_⟩,newC_nodup _ _ _,fun a ha b hb2=>?_⟩
    ·split at hb2
     ·rw [List.mem_singleton.1 hb2];intro e2;subst e2;exact hwr ha
     ·cases hb2
    ·obtain ⟨q,rfl,_,hxq⟩:=newC_mem.1 hb2
     rcases List.mem_append.1 ha with ha | ha
     ·obtain ⟨p,rfl,_,hxp,_⟩:=hold a ha
      intro e2
      have:p=q:=by omega
      subst this;omega
     ·split at ha
      ·rw [List.mem_singleton.1 ha]
       intro e2
       have:p0=q:=by omega
       subst this;omega
      ·cases ha
   ·rw [e,List.mem_append,List.mem_append,newC_mem]
    constructor
    ·rintro ((hv | hv) | ⟨p,rfl,hp,hx⟩)
     ·obtain ⟨p,rfl,h1,h2,h3⟩:=hold v hv
      refine ⟨p,rfl,h1,by omega,?_⟩
      rw [hZ,if_neg (by intro e2;subst e2;exact hwr hv)];exact h3
     ·split at hv
      ·rename_i h
       rw [List.mem_singleton.1 hv]
       exact ⟨p0,rfl,hp0,by omega,by rw [hZ,if_pos rfl];omega⟩
      ·cases hv
     ·have l:=inv'.late p hp (by omega)
      have:=cOk_bd hc hp
      exact ⟨p,rfl,hp,by omega,by omega⟩
    ·rintro ⟨p,rfl,hp,hx,hz⟩
     rw [hZ] at hz
     by_cases hpp:p0=p
     ·subst hpp
      rw [if_pos rfl] at hz
      left;right
      rw [if_pos (by omega)];simp
     ·rw [if_neg hpp] at hz
      by_cases h:X L p<=t
      ·have:=(hm (p:Int)).2 ⟨p,rfl,hp,h,hz⟩
       rcases List.mem_cons.1 this with e2 | e2
       ·omega
       ·exact .inl (.inl e2)
      ·exact .inr ⟨p,rfl,hp,by omega⟩
def rrO (L:List (Int×Int)) (n:Nat):List Int:=ordF (rrW L) n
theorem rr_left {L:List (Int×Int)} (n:Nat) {t:Nat} (ht:t<=n):leftOf L (rrO L n) t=rrLf L t:=leftOf_F (rrLf_zero L) (rrLf_succ L) n t ht
theorem rr_ok {L:List (Int×Int)} (hc:cOk L=true) {T:Nat} (hT:lastLeave L=T):ordOk L (rrO L T)=true :=
 ordF_ok hc (rrLf_zero L) (rrLf_succ L) (fun t inv=>rr_picks inv (rr_inv hc t).2.2) hT
end
section
theorem perm_of_all {p:List Int}:∀ {q:List Int},p.Nodup->(∀ v,v ∈ p->v ∈ q)->q.length<=p.length->p.Perm q:=by
 induction p with
 | nil=>intro q _ _ hl;simp at hl;rw [hl]
 | cons a p ih =>
  intro q hn hs hl
  have ha:a ∈ q:=hs a (by simp)
  obtain ⟨hna,hn2⟩:=List.nodup_cons.1 hn
  have e:=List.perm_cons_erase ha
  have hle:(q.erase a).length=q.length - 1:=List.length_erase_of_mem ha
  have hq:0 < q.length:=List.length_pos_of_mem ha
  refine (List.Perm.cons a (ih hn2 (fun v hv=>?_) (by simp at hl;omega))).trans e.symm
  have hva:v≠a:=fun e=>hna (e ▸ hv)
  exact (List.mem_erase_of_ne hva).2 (hs v (by simp [hv]))
def upto (n:Nat):List Int:=(List.range n).map fun (i:Nat)=>(i:Int)
theorem upto_len (n:Nat):(upto n).length=n:=by simp [upto]
theorem mem_upto {n:Nat} {v:Int}:v ∈ upto n ↔ 0<=v∧v < n:=by
 simp only [upto,List.mem_map,List.mem_range]
 constructor
 ·rintro ⟨i,hi,rfl⟩;omega
 ·intro h;exact ⟨v.toNat,by omega,by omega⟩
theorem Z_get {o:List Int} {i:Nat} (h:i < o.length):Z o i=o[i]:=by simp [Z,h]
end
section
def roundR (L:List (Int×Int)):List Int:=if cOk L=true then rrO L (lastLeave L).toNat else []
theorem roundR_yes {L:List (Int×Int)} (h:cOk L=true) {T:Nat} (hT:lastLeave L=T):roundR L=rrO L T:=by rw [roundR,if_pos h,hT];rfl
theorem roundR_no {L:List (Int×Int)} (h:cOk L=false):roundR L=[]:=by simp [roundR,h]
theorem rrO_len (L:List (Int×Int)) (n:Nat):(rrO L n).length=n:=ordF_len _ _
theorem rrQ_len {L:List (Int×Int)} (hc:cOk L=true) (t:Nat):(rrQ L t).length<=8:=by
 obtain ⟨_,hnd,hm⟩:=rr_inv hc t
 have hlen:=cOk_len hc
 have hin:∀ v,v ∈ rrQ L t->v ∈ upto L.length:=fun v hv=>by
  obtain ⟨p,rfl,hp,_⟩:=(hm v).1 hv
  exact mem_upto.2 ⟨by omega,by omega⟩
 rcases Nat.lt_or_ge L.length (rrQ L t).length with h | h
 ·have:=(perm_of_all hnd hin (by rw [upto_len];omega)).length_eq
  rw [upto_len] at this;omega
 ·omega
end
section
def wMany:List UInt8:=[109,97,110,121]
def wWaits:List UInt8:=[119,97,105,116,115]
def wLeaves:List UInt8:=[108,101,97,118,101,115]
def wLast:List UInt8:=[108,97,115,116]
def wRounds:List UInt8:=[114,111,117,110,100,115]
def wBusy:List UInt8:=[98,117,115,121]
def wLeast:List UInt8:=[108,101,97,115,116]
def wIdle:List UInt8:=[105,100,108,101]
def wWork:List UInt8:=[119,111,114,107]
def wOrder:List UInt8:=[111,114,100,101,114]
def wSum:List UInt8:=[115,117,109]
def wBeside:List UInt8:=[98,101,115,105,100,101]
def wWhat:List UInt8:=[119,104,97,116]
def wOk:List UInt8:=[111,107]
def wNot:List UInt8:=[110,111,116]
def rowB (L:List (Int×Int)):List Int:=(rows (busyP L)).flatten
def numOr (x:Int):List UInt8:=if x < 0 then wNone else numL x.toNat
def wordsOk (ws:List (List UInt8)):Bool:=decide (ws.length=2) && decide (0<=digL (ZS2 ws 1))
where ZS2 (xs:List (List UInt8)) (k:Nat):List UInt8:=xs.getD k []
def askW (L:List (Int×Int)) (u:List UInt8) (n:Int):List UInt8 :=
 if u=wWork then numOr (workV L n) else if u=wOrder then rowText (orderR L n) else if u=wSum then (if n < 4 then numOr (sumV L (orderR L n)) else wNone) else if u=wBeside then numOr (waitSumV L n) else wWhat
def askL (L:List (Int×Int)) (s:List UInt8):List UInt8 :=
 if s=wMany then numL L.length else if s=wWaits then rowText (waits L) else if s=wLeaves then rowText (leaves L) else if s=wLast then rowText (lastR L) else if s=wRounds then rowText (roundR L)
 else if s=wBusy then rowText (rowB L) else if s=wNeed then numL (needOf L).toNat else if s=wLeast then numL (leastV L).toNat else if s=wIdle then numL (idleV L).toNat
 else if wordsOk (cutL 32 s)=true then askW L ((cutL 32 s).getD 0 []) (digL ((cutL 32 s).getD 1 [])) else wWhat
theorem ask_Many (L:List (Int×Int)):askL L wMany=numL L.length:=by
 unfold askL
 rw [if_pos rfl]
theorem ask_Waits (L:List (Int×Int)):askL L wWaits=rowText (waits L):=by
 unfold askL
 rw [if_neg (by decide),if_pos rfl]
theorem ask_Leaves (L:List (Int×Int)):askL L wLeaves=rowText (leaves L):=by
 unfold askL
 rw [if_neg (by decide),if_neg (by decide),if_pos rfl]
theorem ask_Last (L:List (Int×Int)):askL L wLast=rowText (lastR L):=by
 unfold askL
 rw [if_neg (by decide),if_neg (by decide),if_neg (by decide),if_pos rfl]
theorem ask_Rounds (L:List (Int×Int)):askL L wRounds=rowText (roundR L):=by
 unfold askL
 rw [if_neg (by decide),if_neg (by decide),if_neg (by decide),if_neg (by decide),if_pos rfl]
theorem ask_Busy (L:List (Int×Int)):askL L wBusy=rowText (rowB L):=by
 unfold askL
 rw [if_neg (by decide),if_neg (by decide),if_neg (by decide),if_neg (by decide),if_neg (by decide),if_pos rfl]
theorem ask_Need (L:List (Int×Int)):askL L wNeed=numL (needOf L).toNat:=by
 unfold askL
 rw [if_neg (by decide),if_neg (by decide),if_neg (by decide),if_neg (by decide),if_neg (by decide),if_neg (by decide),if_pos rfl]
theorem ask_Least (L:List (Int×Int)):askL L wLeast=numL (leastV L).toNat:=by
 unfold askL
 rw [if_neg (by decide),if_neg (by decide),if_neg (by decide),if_neg (by decide),if_neg (by decide),if_neg (by decide),if_neg (by decide),if_pos rfl]
theorem ask_Idle (L:List (Int×Int)):askL L wIdle=numL (idleV L).toNat:=by
 unfold askL
 rw [if_neg (by decide),if_neg (by decide),if_neg (by decide),if_neg (by decide),if_neg (by decide),if_neg (by decide),if_neg (by decide),if_neg (by decide),if_pos rfl]
def smallL (xs:List Int):Prop:=xs.length<=1000000∧∀ k,k < xs.length->Z xs k<=1000000000
theorem small_mem {xs:List Int} (h1:xs.length<=1000000) (h2:∀ v ∈ xs,v<=1000000000):smallL xs:=⟨h1,fun k hk=>h2 _ (by rw [Z_get hk];exact List.getElem_mem _)⟩
theorem small_nil:smallL []:=⟨by simp,fun k hk=>by simp at hk⟩
theorem small_ord {L:List (Int×Int)} {o:List Int} (h:ordOk L o=true):smallL o:=by
 have p:=ordOk_parts h
 have hl:=cOk_len p.1
 refine ⟨by omega,fun k hk=>?_⟩
 rcases unitOk_cases (unitsOk_at _ p.2.2.1 k hk) with e | ⟨q,e,hq,-,-⟩ <;> rw [e] <;> omega
theorem order_ok7 {L:List (Int×Int)} {r:Int} (h:byOk L r=true):ordOk L (orderR L r)=true:=by
 have hb:=h
 simp only [byOk,Bool.and_eq_true,decide_eq_true_eq] at hb
 obtain ⟨T,hT,-⟩:=lastLeave_nat hb.1
 obtain ⟨k,rfl⟩:=Int.eq_ofNat_of_zero_le hb.2.1
 rw [orderR_yes h,hT,Int.toNat_natCast]
 exact orderTo_ok hb.1 k hT
theorem small_order (L:List (Int×Int)) (r:Int):smallL (orderR L r):=by
 cases h:byOk L r with
 | true=>exact small_ord (order_ok7 h)
 | false=>rw [orderR_no h];exact small_nil
theorem small_rounds {L:List (Int×Int)} (h:cOk L=true):smallL (roundR L):=by
 obtain ⟨T,hT,-⟩:=lastLeave_nat h
 rw [roundR,if_pos h,hT,Int.toNat_natCast]
 exact small_ord (rr_ok h hT)
theorem small_waits {L:List (Int×Int)} (h:cOk L=true):smallL (waits L):=by
 have hl:=cOk_len h
 rw [waits,if_pos h]
 refine ⟨by rw [waitsTo_len];omega,fun k hk=>?_⟩
 rw [waitsTo_len] at hk
 have e:Z (waitsTo L L.length) k=waitAt L k:=by simp [Z,waitsTo,hk]
 have:=waitAt_bd h k hk
 rw [e];omega
theorem small_leaves {L:List (Int×Int)} (h:cOk L=true):smallL (leaves L):=by
 have hl:=cOk_len h
 rw [leaves,if_pos h]
 refine ⟨by rw [leavesTo_len];omega,fun k hk=>?_⟩
 rw [leavesTo_len] at hk
 have e:Z (leavesTo L L.length) k=leaveAt L k:=by simp [Z,leavesTo,hk]
 have:=leaveAt_bd h hk
 rw [e];omega
theorem small_last {L:List (Int×Int)} (h:cOk L=true):smallL (lastR L):=by
 have hl:=cOk_len h
 have ho:=order_ok7 (L:=L) (r:=1) (by simp [byOk,h])
 rw [lastR,timesR_yes ho]
 refine ⟨by rw [timeL_len];omega,fun k hk=>?_⟩
 rw [timeL_len] at hk
 have:=time_bd ho hk
 rw [timeL_Z hk];omega
theorem busyT_small (L:List (Int×Int)):∀ t,∀ c ∈ busyT L t,c.1<=t∧c.2<=t:=by
 intro t
 induction t with
 | zero=>intro c hc;simp [busyT] at hc
 | succ t ih =>
  intro c hc
  simp only [busyT] at hc
  split at hc
  ·have:=ih c hc;omega
  ·unfold busyNext at hc
   split at hc
   ·rename_i hlast
    rcases List.mem_or_eq_of_mem_set hc with hc | rfl
    ·have:=ih c hc;omega
    ·simp only [lastIs,decide_eq_true_eq] at hlast
     have hm:(X (busyT L t) ((busyT L t).length - 1))<=t:=by
      have hlt:(busyT L t).length - 1 < (busyT L t).length:=by omega
      have:=(ih _ (List.getElem_mem hlt)).1
      simpa [X,List.getD_eq_getElem?_getD,hlt] using this
     constructor <;> simp <;> omega
   ·rcases List.mem_append.1 hc with hc | hc
    ·have:=ih c hc;omega
    ·simp at hc;subst hc;constructor <;> simp <;> omega
theorem flat_len (B:List (Int×Int)):(rows B).flatten.length=2 * B.length:=by
 induction B with
 | nil=>rfl
 | cons c B ih=>simp only [rows,List.map_cons,List.flatten_cons,List.length_append,List.length_cons,List.length_nil] at ih ⊢;omega
theorem small_busy (L:List (Int×Int)):smallL (rowB L):=by
 have hb:=busyP_len L
 refine small_mem (by rw [rowB,flat_len];omega) (fun v hv=>?_)
 obtain ⟨r,hr,hv⟩:=List.mem_flatten.1 hv
 simp only [rows,List.mem_map] at hr
 obtain ⟨c,hc,rfl⟩:=hr
 have hbd:c.1<=200∧c.2<=200:=by
  unfold busyP at hc
  split at hc
  ·exact busyT_small L 200 c hc
  ·simp at hc
 simp at hv
 rcases hv with rfl | rfl <;> omega
theorem need_small {L:List (Int×Int)} (h:cOk L=true):0<=needOf L∧needOf L<=1000:=by
 have hl:=cOk_len h
 have:=sumTo_bd h L.length (Nat.le_refl _)
 rw [needOf,if_pos h];omega
theorem idle_small {L:List (Int×Int)} (h:cOk L=true):0<=idleV L∧idleV L<=1000:=by
 have:=idleTo_bd h L.length (Nat.le_refl _)
 rw [idleV,if_pos h];omega
theorem least_sum {L:List (Int×Int)} (h:cOk L=true):leastV L=sumV L (orderR L 2)∧0<=leastV L∧leastV L<=2000:=by
 have ho:=order_ok7 (L:=L) (r:=2) (by simp [byOk,h])
 have e:leastV L=tmTo L (orderR L 2) L.length:=if_pos h
 have hb:=tmTo_bd ho L.length (Nat.le_refl _)
 have:=leastV_bd L
 exact ⟨by rw [e,sumV,if_pos ho],by rw [e];exact hb.1,this.2⟩
theorem sum_small (L:List (Int×Int)) (o:List Int):sumV L o<=1000000000:=by
 unfold sumV
 split
 ·rename_i h
  have hl:=cOk_len (ordOk_parts h).1
  have:=tmTo_bd h L.length (Nat.le_refl _)
  omega
 ·omega
theorem work_small (L:List (Int×Int)) (t:Int):workV L t<=1000000000:=by
 unfold workV
 split
 ·rename_i h
  simp only [momentOk,Bool.and_eq_true] at h
  have:=wk_bd h.1 t.toNat
  omega
 ·omega
theorem waitsum_small (L:List (Int×Int)) (c:Int):waitSumV L c<=1000000000:=by
 unfold waitSumV
 split
 ·rename_i h
  have hp:=besOk_parts h
  have hl:=cOk_len hp.1
  have:=waitS_bd hp.1 (c:=c.toNat) (by omega) L.length (Nat.le_refl _)
  omega
 ·omega
def deskLine (D:KV) (s:List UInt8):KV×List UInt8 :=
 if deskOk D=true then match readD s with
  | some d=>((deskDo D d).1,if (deskDo D d).2=true then wOk else wNot)
  | none=>(D,askL D.now s)
 else (noK,[])
theorem line_no {D:KV} {s:List UInt8} (h:deskOk D=false):deskLine D s=(noK,[]):=by rw [deskLine,if_neg (by simp [h])]
theorem line_deed {D:KV} {s:List UInt8} {d:DV} (h:deskOk D=true) (hd:readD s=some d):deskLine D s=((deskDo D d).1,if (deskDo D d).2=true then wOk else wNot):=by rw [deskLine,if_pos h,hd]
theorem line_ask {D:KV} {s:List UInt8} (h:deskOk D=true) (hd:readD s=none):deskLine D s=(D,askL D.now s):=by rw [deskLine,if_pos h,hd]
theorem line_ok {D:KV} (h:deskOk D=true) (s:List UInt8):deskOk (deskLine D s).1=true:=by
 cases hd:readD s with
 | some d=>rw [line_deed h hd];exact deskDo_ok h
 | none=>rw [line_ask h hd];exact h
end
section
attribute [local go_sem ↓] Go.wp_at_zero Go.wp_at_succ
def LineP (D:KV) (s:List UInt8) (w:World) (e:Ending) (w':World):Prop :=
 ∃ vn vp vs,e=.returned (.tuple #[.agg #[vn,vp],.string (bs (deskLine D s).2)])∧KO w' w.heap.size vn vp (deskLine D s).1 vs∧Below w.heap.size w w'
theorem c_lineDeed (D:KV) (vn vp:Value) (s:List UInt8) (w:World) (hK:Ks w w.heap.size vn vp D) (hs:SmallK D) (hl:s.length<=100000000) (ho:deskOk D=true) (dk da db:Int) (hrd:readD s=some ⟨dk,da,db⟩) :
  Calls Tryz.prog 21 #[.agg #[vn,vp],.string (bs s)] w (LineP D s w):=by
 have HVd:=Lib.hid (line_deed ho hrd)
 obtain ⟨w0,hw0⟩:∃ w0,(w.alloc (.cells #[vn,vp] 31)).alloc (.cells #[.slice none 0 0,.slice none 0 0] 31)=w0:=⟨_,rfl⟩
 have hz0:w0.heap.size=w.heap.size+2:=by rw [<- hw0];simp
 have hb0:Below w.heap.size w w0:=by rw [<- hw0];exact ((Below.refl _ w).alloc (Nat.le_refl _) _).alloc (by simp) _
 have bD:w0.heap[w.heap.size]?=some (.cells #[vn,vp] 31 (0,0)):=by rw [<- hw0];exact (Below.heap_alloc _ _ _ (by simp)).trans (heap_alloc_new _ _)
 have bR:w0.heap[w.heap.size+1]?=some (.cells #[.slice none 0 0,.slice none 0 0] 31 (0,0)):=by rw [<- hw0];exact heap_newK _ _ _
 have hK0:=(hK.below hb0).more (show w.heap.size<=w0.heap.size by omega)
 have HO:=Lib.hid (c_sDeskOk D vn vp w0 hK0 hs)
 have d0:=cell_of_row _ w.heap.size 0 _ _ _ bD
 have d1:=cell_of_row _ w.heap.size 1 _ _ _ bD
 have H:=Lib.hid ho
 have HCp:=Lib.hid (fun (w':World) (hb:Below w0.heap.size w0 w')=>c_sCopy D vn vp w' ((hK0.below hb).more hb.size) hs)
 have HRd:=Lib.hid (fun W=>c_sReadDeed s hl W)
 rw [ho] at HO
 rw [hrd] at HRd
 have HK0:=Lib.hid hK0
 obtain ⟨⟨An,cn,rfl,hcn,hN⟩,Ap,cp,rfl,hcp,hP⟩:=hK
 clear hK0 ho hrd
 go_enter Tryz.func21,Tryz.ntmps21
 go_wp2_with fail
 refine HO.out.mono ?_
 rintro e w1 ⟨rfl,hb1⟩
 clear hw0
 have hz1:=hb1.size
 have g0:=(hb1.cell (p:=⟨w.heap.size,0,none⟩) (show w.heap.size < w0.heap.size by omega)).trans d0
 have g1:=(hb1.cell (p:=⟨w.heap.size,1,none⟩) (show w.heap.size < w0.heap.size by omega)).trans d1
 go_wp2_with fail
 refine (HCp.out _ hb1).mono ?_
 rintro e w2 ⟨un,up,us,rfl,hC,hb2⟩
 have hz2:=hb2.size
 have hx2:=hb1.trans (hb2.mono hz1)
 obtain ⟨Gn,gn,rfl,hgn,-⟩:=hC.now.formG
 obtain ⟨Gp,gp,rfl,hgp,hgm,-⟩:=hC.past.form
 obtain ⟨w3,hw3⟩:∃ w3,w2.alloc (.cells #[.slice Gn D.now.length gn,.slice Gp D.past.length gp] 31)=w3:=⟨_,rfl⟩
 have hz3:w2.heap.size < w3.heap.size:=by rw [<- hw3];simp
 have hb3:Below w2.heap.size w2 w3:=by rw [<- hw3];exact (Below.refl _ w2).alloc (Nat.le_refl _) _
 have bO:w3.heap[w2.heap.size]?=some (.cells #[.slice Gn D.now.length gn,.slice Gp D.past.length gp] 31 (0,0)):=by rw [<- hw3];exact heap_alloc_new _ _
 have hx3:=hx2.trans (hb3.mono (by omega))
 have ko3:KO w3 w1.heap.size (.slice Gn D.now.length gn) (.slice Gp D.past.length gp) D us:=hC.ko.below hb3 (Nat.le_refl _)
 clear g0 g1 hC
 go_wp2_with fail
 refine (HRd.out _).mono ?_
 rintro e w4 ⟨rfl,hb4⟩
 clear hw3
 have hz4:=hb4.size
 simp only [readV]
 have hx4:Below w0.heap.size w0 w4:=hx3.trans (hb4.mono (by omega))
 have hz34:w3.heap.size<=w4.heap.size:=hz4
 have bD4:=(hx4.block w.heap.size (by omega)).trans bD
 have bR4:=(hx4.block (w.heap.size+1) (by omega)).trans bR
 have bO4:=(hb4.block w2.heap.size hz3).trans bO
 have ko4:KO w4 w1.heap.size (.slice Gn D.now.length gn) (.slice Gp D.past.length gp) D us:=ko3.below hb4 (Nat.le_refl _)
 have hlt4:w2.heap.size < w4.heap.size:=by omega
 have bD5:=(Below.heap_alloc w4 (.cells #[.int .i64 dk,.int .i64 da,.int .i64 db] 39) w.heap.size (by omega)).trans bD4
 have bR5:=(Below.heap_alloc w4 (.cells #[.int .i64 dk,.int .i64 da,.int .i64 db] 39) (w.heap.size+1) (by omega)).trans bR4
 have bO5:=(Below.heap_alloc w4 (.cells #[.int .i64 dk,.int .i64 da,.int .i64 db] 39) w2.heap.size hlt4).trans bO4
 have ko5:KO (w4.alloc (.cells #[.int .i64 dk,.int .i64 da,.int .i64 db] 39)) w1.heap.size (.slice Gn D.now.length gn) (.slice Gp D.past.length gp) D us:=ko4.below ((Below.refl w4.heap.size w4).alloc (Nat.le_refl _) _) (Nat.le_refl _)
 have hx5:Below w0.heap.size w0 (w4.alloc (.cells #[.int .i64 dk,.int .i64 da,.int .i64 db] 39)):=hx4.alloc (by omega) _
 have hs5:w4.heap.size < (w4.alloc (.cells #[.int .i64 dk,.int .i64 da,.int .i64 db] 39)).heap.size:=by simp
 have e0:=cell_of_row _ w.heap.size 0 _ _ _ bD5
 have e1:=cell_of_row _ w.heap.size 1 _ _ _ bD5
 have bN5:=heap_alloc_new w4 (.cells #[.int .i64 dk,.int .i64 da,.int .i64 db] 39)
 have f0:=cell_of_row _ w4.heap.size 0 _ _ _ bN5
 have f1:=cell_of_row _ w4.heap.size 1 _ _ _ bN5
 have f2:=cell_of_row _ w4.heap.size 2 _ _ _ bN5
 obtain ⟨w5,hw5⟩:∃ w5,w4.alloc (.cells #[.int .i64 dk,.int .i64 da,.int .i64 db] 39)=w5:=⟨_,rfl⟩
 rw [hw5] at bD5 bR5 bO5 ko5 hx5 hs5 e0 e1 bN5 f0 f1 f2
 have HDo:=Lib.hid (c_sDeskDo D _ _ dk da db w5 ((HK0.out.below hx5).more hx5.size) hs)
 cases hdo:(deskDo D ⟨dk,da,db⟩).2 with
 | true =>
  have HV:=Lib.hid (show deskLine D s=((deskDo D ⟨dk,da,db⟩).1,wOk) by rw [HVd.out,hdo];rfl)
  have HD:=Lib.hid hdo
  clear hdo
  go_wp2_with fail
  refine HDo.out.mono ?_
  rintro e w6 ⟨yn,yp,ys,rfl,o6,hb6⟩
  rw [HD.out]
  obtain ⟨A5,c5,A6,c6,rfl,rfl⟩:=o6.slices
  have hz6:=hb6.size
  obtain ⟨w7,hw7⟩:∃ w7,w6.alloc (.cells #[.slice A5 (deskDo D ⟨dk,da,db⟩).1.now.length c5,.slice A6 (deskDo D ⟨dk,da,db⟩).1.past.length c6] 31)=w7:=⟨_,rfl⟩
  have hb7:Below w6.heap.size w6 w7:=by rw [<- hw7];exact (Below.refl _ w6).alloc (Nat.le_refl _) _
  have hz7:=hb7.size
  have bN7:w7.heap[w6.heap.size]?=some (.cells #[.slice A5 (deskDo D ⟨dk,da,db⟩).1.now.length c5,.slice A6 (deskDo D ⟨dk,da,db⟩).1.past.length c6] 31 (0,0)):=by rw [<- hw7];exact heap_alloc_new _ _
  have m0:=cell_of_row _ w6.heap.size 0 _ _ _ bN7
  have m1:=cell_of_row _ w6.heap.size 1 _ _ _ bN7
  have b7:=(hb7.block (w.heap.size+1) (by omega)).trans ((hb6.block (w.heap.size+1) (by omega)).trans bR5)
  have x0:=cell_of_row _ (w.heap.size+1) 0 _ _ _ b7
  have x1:=cell_of_row _ (w.heap.size+1) 1 _ _ _ b7
  have z0:w7.frozen? ⟨w.heap.size+1,0,none⟩=false:=unfrozen_of b7
  have z1:w7.frozen? ⟨w.heap.size+1,1,none⟩=false:=unfrozen_of b7
  obtain ⟨Wa,hWa⟩:∃ Wa,w7.setCell ⟨w.heap.size+1,0,none⟩ (.slice A5 (deskDo D ⟨dk,da,db⟩).1.now.length c5)=Wa:=⟨_,rfl⟩
  obtain ⟨WX,hWX⟩:∃ WX,Wa.setCell ⟨w.heap.size+1,1,none⟩ (.slice A6 (deskDo D ⟨dk,da,db⟩).1.past.length c6)=WX:=⟨_,rfl⟩
  have bWa:=set2a (.slice A5 (deskDo D ⟨dk,da,db⟩).1.now.length c5) b7
  rw [hWa] at bWa
  have xWa:=cell_of_row _ (w.heap.size+1) 1 _ _ _ bWa
  have zWa:Wa.frozen? ⟨w.heap.size+1,1,none⟩=false:=unfrozen_of bWa
  have bX:=set2b (.slice A6 (deskDo D ⟨dk,da,db⟩).1.past.length c6) bWa
  rw [hWX] at bX
  have gX:w7.grownBy WX (some (w.heap.size+1)):=by rw [<- hWX,<- hWa];exact (grown_set1 _ _ _ _).trans (grown_set1 _ _ _ _)
  have HKO:=Lib.hid (((o6.below hb7 (Nat.le_refl _)).keptLow gX (by omega)).mono (show w.heap.size<=w5.heap.size by omega))
  have HBl:=Lib.hid ((((hb0.trans (hx5.mono (by omega))).trans (hb6.mono (by omega))).trans (hb7.mono (by omega))).grown gX (by omega) (fun k e=>by cases e;omega))
  have k0:=cell_of_row _ (w.heap.size+1) 0 _ _ _ bX
  have k1:=cell_of_row _ (w.heap.size+1) 1 _ _ _ bX
  clear hw5 bN5 bN7
  generalize (deskDo D ⟨dk,da,db⟩).1=DN at *
  go_wp2_with fail
  refine bodyPost_ret (v:=.tuple #[.agg #[.slice A5 DN.now.length c5,.slice A6 DN.past.length c6],.string (bs wOk)]) (by simp [results,Tryz.f21,go_sem,k0,k1];rfl) rfl ?_
  exact ⟨_,_,ys,by rw [HV.out],by rw [HV.out];exact HKO.out,HBl.out⟩
 | false =>
  have HV:=Lib.hid (show deskLine D s=((deskDo D ⟨dk,da,db⟩).1,wNot) by rw [HVd.out,hdo];rfl)
  have HD:=Lib.hid hdo
  clear hdo
  go_wp2_with fail
  refine HDo.out.mono ?_
  rintro e w6 ⟨yn,yp,ys,rfl,o6,hb6⟩
  rw [HD.out]
  obtain ⟨A5,c5,A6,c6,rfl,rfl⟩:=o6.slices
  have hz6:=hb6.size
  obtain ⟨w7,hw7⟩:∃ w7,w6.alloc (.cells #[.slice A5 (deskDo D ⟨dk,da,db⟩).1.now.length c5,.slice A6 (deskDo D ⟨dk,da,db⟩).1.past.length c6] 31)=w7:=⟨_,rfl⟩
  have hb7:Below w6.heap.size w6 w7:=by rw [<- hw7];exact (Below.refl _ w6).alloc (Nat.le_refl _) _
  have hz7:=hb7.size
  have bN7:w7.heap[w6.heap.size]?=some (.cells #[.slice A5 (deskDo D ⟨dk,da,db⟩).1.now.length c5,.slice A6 (deskDo D ⟨dk,da,db⟩).1.past.length c6] 31 (0,0)):=by rw [<- hw7];exact heap_alloc_new _ _
  have m0:=cell_of_row _ w6.heap.size 0 _ _ _ bN7
  have m1:=cell_of_row _ w6.heap.size 1 _ _ _ bN7
  have b7:=(hb7.block (w.heap.size+1) (by omega)).trans ((hb6.block (w.heap.size+1) (by omega)).trans bR5)
  have x0:=cell_of_row _ (w.heap.size+1) 0 _ _ _ b7
  have x1:=cell_of_row _ (w.heap.size+1) 1 _ _ _ b7
  have z0:w7.frozen? ⟨w.heap.size+1,0,none⟩=false:=unfrozen_of b7
  have z1:w7.frozen? ⟨w.heap.size+1,1,none⟩=false:=unfrozen_of b7
  obtain ⟨Wa,hWa⟩:∃ Wa,w7.setCell ⟨w.heap.size+1,0,none⟩ (.slice A5 (deskDo D ⟨dk,da,db⟩).1.now.length c5)=Wa:=⟨_,rfl⟩
  obtain ⟨WX,hWX⟩:∃ WX,Wa.setCell ⟨w.heap.size+1,1,none⟩ (.slice A6 (deskDo D ⟨dk,da,db⟩).1.past.length c6)=WX:=⟨_,rfl⟩
  have bWa:=set2a (.slice A5 (deskDo D ⟨dk,da,db⟩).1.now.length c5) b7
  rw [hWa] at bWa
  have xWa:=cell_of_row _ (w.heap.size+1) 1 _ _ _ bWa
  have zWa:Wa.frozen? ⟨w.heap.size+1,1,none⟩=false:=unfrozen_of bWa
  have bX:=set2b (.slice A6 (deskDo D ⟨dk,da,db⟩).1.past.length c6) bWa
  rw [hWX] at bX
  have gX:w7.grownBy WX (some (w.heap.size+1)):=by rw [<- hWX,<- hWa];exact (grown_set1 _ _ _ _).trans (grown_set1 _ _ _ _)
  have HKO:=Lib.hid (((o6.below hb7 (Nat.le_refl _)).keptLow gX (by omega)).mono (show w.heap.size<=w5.heap.size by omega))
  have HBl:=Lib.hid ((((hb0.trans (hx5.mono (by omega))).trans (hb6.mono (by omega))).trans (hb7.mono (by omega))).grown gX (by omega) (fun k e=>by cases e;omega))
  have k0:=cell_of_row _ (w.heap.size+1) 0 _ _ _ bX
  have k1:=cell_of_row _ (w.heap.size+1) 1 _ _ _ bX
  clear hw5 bN5 bN7
  generalize (deskDo D ⟨dk,da,db⟩).1=DN at *
  go_wp2_with fail
  refine bodyPost_ret (v:=.tuple #[.agg #[.slice A5 DN.now.length c5,.slice A6 DN.past.length c6],.string (bs wNot)]) (by simp [results,Tryz.f21,go_sem,k0,k1];rfl) rfl ?_
  exact ⟨_,_,ys,by rw [HV.out],by rw [HV.out];exact HKO.out,HBl.out⟩
end
section
theorem grownBy_set (W:World) (b o:Nat) (v:Value):W.grownBy (W.setCell ⟨b,o,none⟩ v) (some b) :=
 ⟨rfl,rfl,rfl,by simp [World.setCell],fun k _ hk=>Below.heap_setCell _ _ _ k (fun e=>hk (by rw [e]))⟩
def QO (w:World) (base:Nat) (v:Value) (xs:List Int):Prop :=
 ∃ g off c,v=.slice (some ⟨g,off,none⟩) xs.length c∧xs.length<=c∧c<=maxLen∧base<=g∧g < w.heap.size∧(∀ j,j < xs.length->w.cell? ⟨g,off+j,none⟩=some (.int .i64 (Z xs j))) ∧
  ∀ j,j < c->(w.cell? ⟨g,off+j,none⟩).isSome=true∧w.frozen? ⟨g,off+j,none⟩=false
theorem QO.empty (w:World) {base:Nat} (h:base<=w.heap.size):QO (w.alloc (.cells #[] 3)) base (.slice (some ⟨w.heap.size,0,none⟩) 0 0) [] :=
 ⟨w.heap.size,0,0,rfl,Nat.le_refl _,by simp [maxLen],h,by simp,fun j hj=>by simp at hj,fun j hj=>by omega⟩
theorem QO.kept {w w':World} {base:Nat} {row:Option Nat} {v:Value} {xs:List Int} (h:QO w base v xs) (hg:w.grownBy w' row) (hr:∀ r,v.ownBlock=some r->row≠some r):QO w' base v xs:=by
 obtain ⟨g,off,c,rfl,h1,h2,h3,h4,h5,h6⟩:=h
 have hb:∀ o,(w'.heap[(⟨g,o,none⟩:Addr).block]?)=w.heap[(⟨g,o,none⟩:Addr).block]?:=fun o=>hg.block g h4 fun e=>hr g (by simp [Value.ownBlock]) e.symm
 exact ⟨g,off,c,rfl,h1,h2,h3,Nat.lt_of_lt_of_le h4 hg.size,fun j hj=>(World.cell?_of_block (hb _)).trans (h5 j hj),fun j hj=>by
  have:=h6 j hj
  rw [World.cell?_of_block (hb _),World.frozen?_of_block (hb _)]
  exact this⟩
theorem QO.below {w w':World} {base B:Nat} {v:Value} {xs:List Int} (h:QO w base v xs) (hb:Below B w w') (hB:w.heap.size<=B):QO w' base v xs :=
 h.kept (row:=none) ⟨hb.os,hb.tape,hb.output,hb.size,fun k hk _=>hb.block k (by omega)⟩ (fun _ _ e=>by cases e)
theorem QO.drewN {w:World} {base:Nat} {v:Value} {xs:List Int} (h:QO w base v xs) (n:Nat):QO (w.drewN n) base v xs:=h
theorem QO.alloc {w:World} {base:Nat} {v:Value} {xs:List Int} (h:QO w base v xs) (o:Obj):QO (w.alloc o) base v xs :=
 h.kept (row:=none) (World.grownBy_alloc _ _ _) (fun _ _ e=>by cases e)
theorem QO.form {w:World} {base:Nat} {v:Value} {xs:List Int} (h:QO w base v xs):∃ g off c,v=.slice (some ⟨g,off,none⟩) xs.length c∧xs.length<=c∧base<=g∧g < w.heap.size∧∀ j,j < xs.length->w.cell? ⟨g,off+j,none⟩=some (.int .i64 (Z xs j)):=by
 obtain ⟨g,off,c,e,h1,h2,h3,h4,h5,h6⟩:=h
 exact ⟨g,off,c,e,h1,h3,h4,h5⟩
theorem QO.cut {w:World} {base g off n c:Nat} {x:Int} {xs:List Int} (h:QO w base (.slice (some ⟨g,off,none⟩) n c) (x::xs)):n=xs.length+1∧1<=c ∧
  QO w base (.slice (if c=1 then some ⟨g,off,none⟩ else some ⟨g,off+1,none⟩) xs.length (c - 1)) xs:=by
 obtain ⟨g',off',c',e,h1,h2,h3,h4,h5,h6⟩:=h
 injection e with e1 e2 e3
 injection e1 with e1
 injection e1 with e1 e4 _
 subst e1 e2 e3 e4
 refine ⟨rfl,by simp at h1;omega,?_⟩
 simp only [List.length_cons] at h1 h5
 by_cases hc:c=1
 ·rw [if_pos hc]
  have hx:xs=[]:=List.eq_nil_of_length_eq_zero (by omega)
  subst hx
  exact ⟨g,off,c - 1,rfl,by simp,by omega,h3,h4,fun j hj=>by simp at hj,fun j hj=>by omega⟩
 ·rw [if_neg hc]
  refine ⟨g,off+1,c - 1,rfl,by omega,by omega,h3,h4,fun j hj=>?_,fun j hj=>?_⟩
  ·have:=h5 (j+1) (by omega)
   rw [show off+1+j=off+(j+1) by omega,this]
   simp [Z]
  ·rw [show off+1+j=off+(j+1) by omega]
   exact h6 (j+1) (by omega)
theorem QO.ofIO {w:World} {base:Nat} {g c n:Nat} {xs:List Int} (h:IO w base (.slice (some ⟨g,0,none⟩) n c) xs):QO w base (.slice (some ⟨g,0,none⟩) n c) xs:=by
 have hn:=h.cells.1
 have hl:=owns_lt h g (by simp [Value.ownBlock])
 obtain ⟨-,cs,fz⟩:=h.cells
 subst hn
 have h':=h
 rcases h.2 with ⟨h2,_⟩ | ⟨g',cap,cur,e,hg,hh,h1,h2,h3,h4⟩
 ·cases h2
 ·injection e with e1 e2 e3
  injection e1 with e1
  injection e1 with e1 e4 _
  subst e1 e3
  refine ⟨g,0,c,rfl,h1,h2,hg,hl,fun j hj=>by rw [Nat.zero_add];exact cs j hj,fun j hj=>?_⟩
  rw [Nat.zero_add]
  refine ⟨?_,fz j⟩
  rw [cell_of_row w g j cur _ _ hh,Array.getElem?_eq_getElem (by omega)];rfl
section
variable {w:World}
theorem app_IL {ops:Array Oper} {rest:List Oper} {o:Oper} {a:Act} {Q:Exit->Act->World->Prop} (hgd:o.guard=none) (s x:Operand)
  (ho:o.op=.call { callee:=.builtin .append,args:=#[s,x],argTypes:=#[85,85] })
  (base:Nat) (v:Value) (xs:List Int) (y:Int) (B:Nat) (hs:a.eval s=v) (hown:IO w base v xs) (hx:a.eval x=.slice (some ⟨B,0,none⟩) 1 1)
  (hB:w.heap[B]?=some (.cells #[.int .i64 y] 3 (0,0))) (hlen:xs.length<=1000000000000) (hbase:base<=w.heap.size)
  (h:∀ g cap w',IO w' base (.slice (some ⟨g,0,none⟩) (xs.length+1) cap) (xs++[y])->w.grownBy w' v.ownBlock->(v.ownBlock=some g∨w.heap.size<=g)->wpList Tryz.prog ops Q rest (a.put o.dst (.slice (some ⟨g,0,none⟩) (xs.length+1) cap)) w') :
  wpList Tryz.prog ops Q (o::rest) a w:=by
 obtain ⟨i0,hi,hz0,hz1,hz2⟩:=info_parts infoI
 refine wpList_append_lies w hgd s x _ ho base 3 i0 _ 1 8 Tryz.underlying85 hi hz0 hz1 hz2 rfl (by decide) v xs.length _ hs hown
  ⟨B,0,none⟩ 1 1 [.int .i64 y] hx rfl (World.news_of_block (cs:=#[.int .i64 y]) hB) (by simp [Value.oneCell']) (by decide) (by simp only [maxLen];omega) (by omega) hbase _ rfl ?_
 intro g cap w' h1 h2 h3 _
 exact h g cap w' (by simpa [IO] using h1) h2 (h3.imp id fun e=>by omega)
theorem app_Q {ops:Array Oper} {rest:List Oper} {o:Oper} {a:Act} {Q:Exit->Act->World->Prop} (hgd:o.guard=none) (s x:Operand)
  (ho:o.op=.call { callee:=.builtin .append,args:=#[s,x],argTypes:=#[85,85] })
  (base:Nat) (v:Value) (xs:List Int) (y:Int) (B:Nat) (hs:a.eval s=v) (hown:QO w base v xs) (hx:a.eval x=.slice (some ⟨B,0,none⟩) 1 1)
  (hB:w.heap[B]?=some (.cells #[.int .i64 y] 3 (0,0))) (hlen:xs.length<=1000000000000) (hbase:base<=w.heap.size)
  (h:∀ g off cap w',QO w' base (.slice (some ⟨g,off,none⟩) (xs.length+1) cap) (xs++[y])->w.grownBy w' v.ownBlock->(v.ownBlock=some g∨w.heap.size<=g)->wpList Tryz.prog ops Q rest (a.put o.dst (.slice (some ⟨g,off,none⟩) (xs.length+1) cap)) w') :
  wpList Tryz.prog ops Q (o::rest) a w:=by
 obtain ⟨i0,hi,hz0,hz1,hz2⟩:=info_parts infoI
 obtain ⟨g,off,c,rfl,h1,h2,h3,h4,h5,h6⟩:=hown
 have holds:∀ j u,(xs.map (Value.int .i64))[j]?=some u->w.cell? ⟨g,off+j,none⟩=some u:=by
  intro j u hj
  have hjl:j < xs.length:=by have:=(List.getElem?_eq_some_iff.1 hj).1;simpa using this
  rw [h5 j hjl,<- hj]
  simp [Z,hjl]
 refine wpList_append_arg w hgd s x _ ho 3 i0 (.int .i64 0) 1 8 Tryz.underlying85 hi hz0 hz1 hz2 rfl (by decide) g off xs.length c (xs.map (Value.int .i64)) hs (by simp) holds
  ⟨B,0,none⟩ 1 1 [.int .i64 y] hx rfl (World.news_of_block (cs:=#[.int .i64 y]) hB) (by simp [Value.oneCell']) (fun hr j hj=>?_) (by simp only [maxLen];omega) (by omega) (fun hr=>?_) (fun hr v' w' ho2 hg2=>?_)
 ·simp only [List.length_singleton] at hj
  obtain rfl:j=0:=by omega
  rw [Nat.mul_one,Nat.add_zero]
  exact h6 _ (by omega)
 ·have es:w.setCells g (off+xs.length * 1) [.int .i64 y]=w.setCell ⟨g,off+xs.length,none⟩ (.int .i64 y):=by rw [Nat.mul_one];rfl
  rw [es]
  refine h g off c _ ⟨g,off,c,by simp,by simp;omega,h2,h3,by simp [World.setCell];exact h4,fun j hj=>?_,fun j hj=>?_⟩ (grownBy_set w g _ _) (.inl (by simp [Value.ownBlock]))
  ·by_cases e:j=xs.length
   ·subst e
    rw [World.cell?_setCell_same' w _ _ (h6 xs.length (by omega)).1]
    simp [Z]
   ·have hj2:j < xs.length:=by simp at hj;omega
    rw [World.cell?_setCell_other (w:=w) (v:=.int .i64 y) (a:=⟨g,off+xs.length,none⟩) (b:=⟨g,off+j,none⟩) (by intro e2;injection e2;omega),h5 j hj2]
    simp only [Z,List.getD_eq_getElem?_getD,List.getElem?_append_left hj2]
  ·have:=h6 j hj
   refine ⟨?_,by rw [World.frozen?_setCell];exact this.2⟩
   by_cases e:j=xs.length
   ·subst e;rw [World.cell?_setCell_same' w _ _ this.1];rfl
   ·rw [World.cell?_setCell_other (w:=w) (v:=.int .i64 y) (a:=⟨g,off+xs.length,none⟩) (b:=⟨g,off+j,none⟩) (by intro e2;injection e2;omega)];exact this.1
 ·have hio:IO w' w.heap.size v' (xs++[y]):=by simpa [IO] using ho2
  obtain ⟨b2,c2,rfl⟩:∃ b2 c2,v'=.slice (some ⟨b2,0,none⟩) (xs.length+1) c2:=by
   rcases hio.2 with ⟨_,h0⟩ | ⟨g',cap,cur,rfl,_⟩
   ·simp at h0
   ·exact ⟨g',cap,by simp⟩
  have hb2:=owns_base hio b2 (by simp [Value.ownBlock])
  have hq:=QO.ofIO hio
  obtain ⟨g9,off9,c9,e9,q1,q2,q3,q4,q5,q6⟩:=hq
  have e10:g9=b2:=by injection e9 with e1 _ _;injection e1 with e1;injection e1 with e1 _ _;exact e1.symm
  exact h b2 0 c2 w' ⟨g9,off9,c9,e9,q1,q2,by omega,q4,q5,q6⟩ ⟨hg2.os,hg2.tape,hg2.output,hg2.size,fun k hk _=>hg2.block k hk (by simp)⟩ (.inr hb2)
end
end
end Go.Proofs.YthpccmkagikhjaaGreatDoor

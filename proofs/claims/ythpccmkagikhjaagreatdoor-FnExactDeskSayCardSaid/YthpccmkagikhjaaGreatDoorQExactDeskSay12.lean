import Derived.Test.YthpccmkagikhjaaGreatDoorQExactDeskSay1
import Derived.Test.YthpccmkagikhjaaGreatDoorQExactDeskSay2
import Derived.Test.YthpccmkagikhjaaGreatDoorQExactDeskSay4
import Derived.Test.YthpccmkagikhjaaGreatDoorQExactDeskSay5
namespace Go.Proofs.YthpccmkagikhjaaGreatDoor
set_option linter.unusedVariables false
open Go.RowKit
set_option maxHeartbeats 8000000
section
theorem Z_set {xs:List Int} {n k:Nat} {v:Int} (h:n < xs.length):Z (xs.set n v) k=if n=k then v else Z xs k:=by
 simp only [Z,List.getD,List.getElem?_set]
 split
 ·rename_i e;subst e;simp
 ·rfl
def needs (L:List (Int×Int)):List Int:=L.map fun c=>c.2
theorem needs_len (L:List (Int×Int)):(needs L).length=L.length:=by simp [needs]
theorem needs_Z {L:List (Int×Int)} {k:Nat} (h:k < L.length):Z (needs L) k=Y L k:=by simp [needs,Z,Y,h]
def pickStep (L:List (Int×Int)) (lf:List Int) (t rule who:Int) (k:Nat):Int :=
 if t < X L k∨Z lf k=0 then who
 else if who < 0 then k
 else if rule=1 then k
 else if rule=2∧Z lf k < Z lf who.toNat then k
 else if rule=3∧Z lf who.toNat < Z lf k then k
 else who
def pickTo (L:List (Int×Int)) (lf:List Int) (t rule:Int):Nat->Int
 | 0=>-1
 | k+1=>pickStep L lf t rule (pickTo L lf t rule k) k
def pick (L:List (Int×Int)) (lf:List Int) (t rule:Int):Int:=pickTo L lf t rule L.length
theorem pickTo_ok (L:List (Int×Int)) (lf:List Int) (t rule:Int):∀ j,
  (pickTo L lf t rule j=-1∧∀ k,k < j->t < X L k∨Z lf k=0)∨(∃ p:Nat,pickTo L lf t rule j=p∧p < j∧X L p<=t∧Z lf p≠0):=by
 intro j
 induction j with
 | zero=>exact .inl ⟨rfl,fun k h=>by omega⟩
 | succ j ih =>
  simp only [pickTo,pickStep]
  by_cases h1:t < X L j∨Z lf j=0
  ·rw [if_pos h1]
   rcases ih with ⟨e,hk⟩ | ⟨p,e,hp,h2,h3⟩
   ·refine .inl ⟨e,fun k hk'=>?_⟩
    by_cases e2:k=j
    ·subst e2;exact h1
    ·exact hk k (by omega)
   ·exact .inr ⟨p,e,by omega,h2,h3⟩
  ·rw [if_neg h1]
   have hj:∃ p:Nat,((j:Int)=(p:Int))∧p < j+1∧X L p<=t∧Z lf p≠0:=⟨j,rfl,by omega,by omega,fun e=>h1 (.inr e)⟩
   split
   ·exact .inr hj
   ·rename_i hw
    rcases ih with ⟨e,_⟩ | ⟨p,e,hp,h2,h3⟩
    ·omega
    ·split
     ·exact .inr hj
     ·split
      ·exact .inr hj
      ·split
       ·exact .inr hj
       ·exact .inr ⟨p,e,by omega,h2,h3⟩
def stepL (lf:List Int) (who:Int):List Int:=if 0<=who then lf.set who.toNat (Z lf who.toNat - 1) else lf
theorem stepL_len (lf:List Int) (who:Int):(stepL lf who).length=lf.length:=by unfold stepL;split <;> simp
def ordL (L:List (Int×Int)) (rule:Int):Nat->List Int
 | 0=>needs L
 | t+1=>stepL (ordL L rule t) (pick L (ordL L rule t) t rule)
def ordW (L:List (Int×Int)) (rule:Int) (t:Nat):Int:=pick L (ordL L rule t) t rule
def orderTo (L:List (Int×Int)) (rule:Int) (n:Nat):List Int:=(List.range n).map (ordW L rule)
def thereTo (L:List (Int×Int)) (lf:List Int) (t:Int):Nat->Int
 | 0=>0
 | j+1=>thereTo L lf t j+(if X L j<=t then Z lf j else 0)
theorem thereTo_set {L:List (Int×Int)} {lf:List Int} {t v:Int} {p:Nat} (h:p < lf.length):∀ j,thereTo L (lf.set p v) t j=thereTo L lf t j+(if p < j∧X L p<=t then v - Z lf p else 0):=by
 intro j
 induction j with
 | zero=>simp [thereTo]
 | succ j ih =>
  simp only [thereTo,ih,Z_set h]
  by_cases e:p=j
  ·subst e
   by_cases hx:X L p<=t
   ·rw [if_neg (by omega),if_pos hx,if_pos rfl,if_pos hx,if_pos (by omega)];omega
   ·rw [if_neg (by omega),if_neg hx,if_neg hx,if_neg (by omega)]
  ·rw [if_neg e]
   by_cases hp:p < j∧X L p<=t
   ·rw [if_pos hp,if_pos (show p < j+1∧X L p<=t by omega)];omega
   ·rw [if_neg hp,if_neg (show ¬ (p < j+1∧X L p<=t) by omega)];omega
structure OI (L:List (Int×Int)) (t:Nat) (lf:List Int):Prop where
 len:lf.length=L.length
 rng:∀ k,k < L.length->0<=Z lf k∧Z lf k<=Y L k
 late:∀ k,k < L.length->(t:Int)<=X L k->Z lf k=Y L k
 sum:thereTo L lf t L.length=wk L t
theorem thereTo_none {L:List (Int×Int)} {lf:List Int} {t:Int}:∀ j,(∀ k,k < j->t < X L k∨Z lf k=0)->thereTo L lf t j=0:=by
 intro j
 induction j with
 | zero=>intro _;rfl
 | succ j ih =>
  intro h
  have h1:=h j (by omega)
  simp only [thereTo,ih (fun k hk=>h k (by omega))]
  split
  ·omega
  ·omega
theorem thereTo_nn {L:List (Int×Int)} {lf:List Int} {t:Int}:∀ j,(∀ k,k < j->0<=Z lf k)->0<=thereTo L lf t j:=by
 intro j
 induction j with
 | zero=>intro _;exact Int.le_refl _
 | succ j ih =>
  intro h
  have h1:=h j (by omega)
  have:=ih (fun k hk=>h k (by omega))
  simp only [thereTo]
  split <;> omega
theorem thereTo_pos {L:List (Int×Int)} {lf:List Int} {t:Int} {p:Nat} (hx:X L p<=t) (hz:0 < Z lf p):∀ j,p < j->(∀ k,k < j->0<=Z lf k)->0 < thereTo L lf t j:=by
 intro j
 induction j with
 | zero=>intro h;omega
 | succ j ih =>
  intro hp h
  have h1:=h j (by omega)
  simp only [thereTo]
  by_cases e:p=j
  ·subst e
   have:=thereTo_nn (L:=L) (lf:=lf) (t:=t) p (fun k hk=>h k (by omega))
   rw [if_pos hx];omega
  ·have:=ih (by omega) (fun k hk=>h k (by omega))
   split <;> omega
theorem thereTo_next {L:List (Int×Int)} {lf:List Int} {t:Nat} (h:∀ k,k < L.length->(t:Int)+1<=X L k->Z lf k=Y L k):∀ j,j<=L.length->thereTo L lf ((t:Int)+1) j=thereTo L lf t j+arrTo L ((t:Int)+1) j:=by
 intro j
 induction j with
 | zero=>intro _;simp [thereTo,arrTo]
 | succ j ih =>
  intro hj
  have i:=ih (by omega)
  simp only [thereTo,arrTo,i]
  by_cases e1:X L j<=t
  ·rw [if_pos (by omega),if_pos e1,if_neg (by omega)];omega
  ·by_cases e2:X L j=(t:Int)+1
   ·have:=h j (by omega) (by omega)
    rw [if_pos (by omega),if_neg e1,if_pos e2];omega
   ·rw [if_neg (by omega),if_neg e1,if_neg e2];omega
theorem OI.picks {L:List (Int×Int)} {t:Nat} {lf:List Int} (h:OI L t lf) (rule:Int) :
  (pick L lf t rule=-1∧wk L t=0)∨(∃ p:Nat,pick L lf t rule=p∧p < L.length∧X L p<=t∧0 < Z lf p∧wk L t≠0):=by
 rcases pickTo_ok L lf t rule L.length with ⟨e,hk⟩ | ⟨p,e,hp,h2,h3⟩
 ·exact .inl ⟨e,by rw [<- h.sum];exact thereTo_none _ hk⟩
 ·have r:=h.rng p hp
  have:=thereTo_pos (lf:=lf) h2 (by omega) L.length hp (fun k hk=>(h.rng k hk).1)
  refine .inr ⟨p,e,hp,h2,by omega,?_⟩
  rw [<- h.sum];omega
theorem OI.next {L:List (Int×Int)} (hc:cOk L=true) {t:Nat} {lf:List Int} (h:OI L t lf) (rule:Int):OI L (t+1) (stepL lf (pick L lf t rule)):=by
 have hw:wk L (t+1)=max (wk L t - 1) 0+arr L ((t:Int)+1):=rfl
 have hwn:=wk_nn hc t
 rcases h.picks rule with ⟨e,h0⟩ | ⟨p,e,hp,hx,hz,hne⟩
 ·rw [e]
  have es:stepL lf (-1)=lf:=by simp [stepL]
  rw [es]
  have late:∀ k,k < L.length->(t:Int)+1<=X L k->Z lf k=Y L k:=fun k hk hk2=>h.late k hk (by omega)
  refine ⟨h.len,h.rng,fun k hk hk2=>late k hk (by omega),?_⟩
  rw [show ((t+1:Nat):Int)=(t:Int)+1 by omega,thereTo_next late _ (Nat.le_refl _),h.sum,hw,h0]
  unfold arr;omega
 ·rw [e]
  have es:stepL lf (p:Int)=lf.set p (Z lf p - 1):=by simp [stepL]
  rw [es]
  have hl:p < lf.length:=by rw [h.len];exact hp
  have late:∀ k,k < L.length->(t:Int)+1<=X L k->Z (lf.set p (Z lf p - 1)) k=Y L k:=fun k hk hk2=>by
   rw [Z_set hl,if_neg (by intro e2;subst e2;omega)]
   exact h.late k hk (by omega)
  refine ⟨by rw [List.length_set];exact h.len,fun k hk=>?_,fun k hk hk2=>late k hk (by omega),?_⟩
  ·rw [Z_set hl]
   have r:=h.rng k hk
   split
   ·rename_i e2;subst e2;omega
   ·exact r
  ·rw [show ((t+1:Nat):Int)=(t:Int)+1 by omega,thereTo_next late _ (Nat.le_refl _),thereTo_set hl,if_pos ⟨hp,hx⟩,h.sum,hw]
   unfold arr;omega
theorem thereTo_first {L:List (Int×Int)} (hc:cOk L=true):∀ j,j<=L.length->thereTo L (needs L) 0 j=arrTo L 0 j:=by
 intro j
 induction j with
 | zero=>intro _;rfl
 | succ j ih =>
  intro hj
  have bd:=cOk_bd hc (k:=j) (by omega)
  simp only [thereTo,arrTo,ih (by omega),needs_Z (L:=L) (k:=j) (by omega)]
  by_cases e:X L j=0
  ·rw [if_pos (by omega),if_pos e]
  ·rw [if_neg (by omega),if_neg e]
theorem ordL_inv {L:List (Int×Int)} (hc:cOk L=true) (rule:Int):∀ t,OI L t (ordL L rule t):=by
 intro t
 induction t with
 | zero =>
  refine ⟨needs_len L,fun k hk=>?_,fun k hk _=>needs_Z hk,?_⟩
  ·have bd:=cOk_bd hc hk
   show 0<=Z (needs L) k∧Z (needs L) k<=Y L k
   rw [needs_Z hk];omega
  ·exact thereTo_first hc _ (Nat.le_refl _)
 | succ t ih=>exact ih.next hc rule
theorem ordL_end {L:List (Int×Int)} (hc:cOk L=true) (rule:Int) {T:Nat} (hT:lastLeave L<=T) {k:Nat} (hk:k < L.length):Z (ordL L rule T) k=0:=by
 have inv:=ordL_inv hc rule T
 have h0:=wk_end hc hT
 have r:=inv.rng k hk
 have hx:X L k<=T:=by
  have f:=fwd_mono hc (i:=k+1) (j:=L.length) (by omega) (Nat.le_refl _)
  have bd:=cOk_bd hc hk
  rw [lastLeave_fwd hc] at hT
  simp only [fwd] at f
  omega
 refine Classical.byContradiction fun hne=>?_
 have:=thereTo_pos (lf:=ordL L rule T) hx (by omega) L.length hk (fun j hj=>(inv.rng j hj).1)
 rw [inv.sum] at this
 omega
theorem orderTo_len (L:List (Int×Int)) (rule:Int) (n:Nat):(orderTo L rule n).length=n:=by simp [orderTo]
theorem orderTo_succ (L:List (Int×Int)) (rule:Int) (n:Nat):orderTo L rule (n+1)=orderTo L rule n++[ordW L rule n]:=by simp [orderTo,List.range_succ]
theorem orderTo_Z {L:List (Int×Int)} {rule:Int} {n k:Nat} (h:k < n):Z (orderTo L rule n) k=ordW L rule k:=by simp [Z,orderTo,h]
end
section
def leftOf (L:List (Int×Int)) (o:List Int):Nat->List Int
 | 0=>needs L
 | t+1=>stepL (leftOf L o t) (Z o t)
def unitOk (L:List (Int×Int)) (o:List Int) (t:Nat):Bool :=
 decide (-1<=Z o t∧Z o t<=(L.length:Int) - 1) && (decide (Z o t < 0) || (decide (X L (Z o t).toNat<=t) && decide (Z (leftOf L o t) (Z o t).toNat≠0)))
def unitsOk (L:List (Int×Int)) (o:List Int):Nat->Bool
 | 0=>true
 | t+1=>unitsOk L o t && unitOk L o t
def noneLeft (lf:List Int):Nat->Bool
 | 0=>true
 | k+1=>noneLeft lf k && decide (Z lf k<=0)
def ordOk (L:List (Int×Int)) (o:List Int):Bool:=cOk L && decide (o.length<=200) && unitsOk L o o.length && noneLeft (leftOf L o o.length) L.length
theorem leftOf_len (L:List (Int×Int)) (o:List Int):∀ t,(leftOf L o t).length=L.length:=by
 intro t
 induction t with
 | zero=>exact needs_len L
 | succ t ih=>simp only [leftOf,stepL_len,ih]
theorem unitsOk_at {L:List (Int×Int)} {o:List Int}:∀ n,unitsOk L o n=true->∀ t,t < n->unitOk L o t=true:=by
 intro n
 induction n with
 | zero=>intro _ t ht;omega
 | succ n ih =>
  intro h t ht
  simp only [unitsOk,Bool.and_eq_true] at h
  by_cases e:t=n
  ·subst e;exact h.2
  ·exact ih h.1 t (by omega)
theorem unitsOk_of {L:List (Int×Int)} {o:List Int}:∀ n,(∀ t,t < n->unitOk L o t=true)->unitsOk L o n=true:=by
 intro n
 induction n with
 | zero=>intro _;rfl
 | succ n ih=>intro h;simp only [unitsOk,Bool.and_eq_true];exact ⟨ih fun t ht=>h t (by omega),h n (by omega)⟩
theorem noneLeft_at {lf:List Int}:∀ n,noneLeft lf n=true->∀ k,k < n->Z lf k<=0:=by
 intro n
 induction n with
 | zero=>intro _ k hk;omega
 | succ n ih =>
  intro h k hk
  simp only [noneLeft,Bool.and_eq_true,decide_eq_true_eq] at h
  by_cases e:k=n
  ·subst e;exact h.2
  ·exact ih h.1 k (by omega)
theorem noneLeft_of {lf:List Int}:∀ n,(∀ k,k < n->Z lf k<=0)->noneLeft lf n=true:=by
 intro n
 induction n with
 | zero=>intro _;rfl
 | succ n ih=>intro h;simp only [noneLeft,Bool.and_eq_true,decide_eq_true_eq];exact ⟨ih fun k hk=>h k (by omega),h n (by omega)⟩
theorem unitOk_cases {L:List (Int×Int)} {o:List Int} {t:Nat} (h:unitOk L o t=true) :
  Z o t=-1∨(∃ p:Nat,Z o t=p∧p < L.length∧X L p<=t∧Z (leftOf L o t) p≠0):=by
 simp only [unitOk,Bool.and_eq_true,Bool.or_eq_true,decide_eq_true_eq] at h
 obtain ⟨⟨h1,h2⟩,h3⟩:=h
 by_cases e:Z o t < 0
 ·left;omega
 ·right
  rcases h3 with h3 | ⟨h3,h4⟩
  ·omega
  ·exact ⟨(Z o t).toNat,by omega,by omega,h3,h4⟩
theorem unitOk_of {L:List (Int×Int)} {o:List Int} {t:Nat} (h:Z o t=-1∨(∃ p:Nat,Z o t=p∧p < L.length∧X L p<=t∧Z (leftOf L o t) p≠0)):unitOk L o t=true:=by
 simp only [unitOk,Bool.and_eq_true,Bool.or_eq_true,decide_eq_true_eq]
 rcases h with e | ⟨p,e,h1,h2,h3⟩
 ·rw [e];exact ⟨⟨by omega,by omega⟩,.inl (by omega)⟩
 ·rw [e]
  have:((p:Int)).toNat=p:=by simp
  rw [this]
  exact ⟨⟨by omega,by omega⟩,.inr ⟨h2,h3⟩⟩
theorem leftOf_orderTo (L:List (Int×Int)) (rule:Int) (n:Nat):∀ t,t<=n->leftOf L (orderTo L rule n) t=ordL L rule t:=by
 intro t
 induction t with
 | zero=>intro _;rfl
 | succ t ih=>intro h;simp only [leftOf,ordL,ih (by omega),orderTo_Z (L:=L) (rule:=rule) (n:=n) (k:=t) (by omega)];rfl
theorem lastLeave_nat {L:List (Int×Int)} (hc:cOk L=true):∃ T:Nat,lastLeave L=T∧T<=132:=by
 have:=lastLeave_bd hc
 exact ⟨(lastLeave L).toNat,by omega,by omega⟩
theorem orderTo_ok {L:List (Int×Int)} (hc:cOk L=true) (rule:Int) {T:Nat} (hT:lastLeave L=T):ordOk L (orderTo L rule T)=true:=by
 have hb:=lastLeave_bd hc
 simp only [ordOk,Bool.and_eq_true,decide_eq_true_eq,orderTo_len]
 refine ⟨⟨⟨hc,by omega⟩,unitsOk_of _ fun t ht=>unitOk_of ?_⟩,noneLeft_of _ fun k hk=>?_⟩
 ·rw [orderTo_Z ht,leftOf_orderTo L rule T t (by omega)]
  rcases (ordL_inv hc rule t).picks rule with ⟨e,_⟩ | ⟨p,e,hp,hx,hz,_⟩
  ·exact .inl e
  ·exact .inr ⟨p,e,hp,hx,by omega⟩
 ·rw [leftOf_orderTo L rule T T (Nat.le_refl _),ordL_end hc rule (by omega) hk]
  exact Int.le_refl _
structure LI (L:List (Int×Int)) (t:Nat) (lf:List Int):Prop where
 len:lf.length=L.length
 rng:∀ k,k < L.length->0<=Z lf k∧Z lf k<=Y L k
 late:∀ k,k < L.length->(t:Int)<=X L k->Z lf k=Y L k
 sum:wk L t<=thereTo L lf t L.length
theorem leftOf_inv {L:List (Int×Int)} (hc:cOk L=true) {o:List Int} {n:Nat} (ho:unitsOk L o n=true):∀ t,t<=n->LI L t (leftOf L o t):=by
 intro t
 induction t with
 | zero =>
  intro _
  refine ⟨needs_len L,fun k hk=>?_,fun k hk _=>needs_Z hk,?_⟩
  ·have bd:=cOk_bd hc hk
   show 0<=Z (needs L) k∧Z (needs L) k<=Y L k
   rw [needs_Z hk];omega
  ·show wk L 0<=thereTo L (needs L) ((0:Nat):Int) L.length
   rw [show ((0:Nat):Int)=0 by rfl,thereTo_first hc _ (Nat.le_refl _)]
   exact Int.le_refl _
 | succ t ih =>
  intro ht
  have h:=ih (by omega)
  have hu:=unitsOk_at n ho t (by omega)
  have hw:wk L (t+1)=max (wk L t - 1) 0+arr L ((t:Int)+1):=rfl
  have hwn:=wk_nn hc t
  have hnn:=thereTo_nn (L:=L) (lf:=leftOf L o t) (t:=t) L.length (fun k hk=>(h.rng k hk).1)
  have hs:=h.sum
  show LI L (t+1) (stepL (leftOf L o t) (Z o t))
  rcases unitOk_cases hu with e | ⟨p,e,hp,hx,hz⟩
  ·rw [e]
   have es:stepL (leftOf L o t) (-1)=leftOf L o t:=by simp [stepL]
   rw [es]
   have late:∀ k,k < L.length->(t:Int)+1<=X L k->Z (leftOf L o t) k=Y L k:=fun k hk hk2=>h.late k hk (by omega)
   refine ⟨h.len,h.rng,fun k hk hk2=>late k hk (by omega),?_⟩
   rw [show ((t+1:Nat):Int)=(t:Int)+1 by omega,thereTo_next late _ (Nat.le_refl _),hw]
   unfold arr;omega
  ·rw [e]
   have es:stepL (leftOf L o t) (p:Int)=(leftOf L o t).set p (Z (leftOf L o t) p - 1):=by simp [stepL]
   rw [es]
   have hl:p < (leftOf L o t).length:=by rw [h.len];exact hp
   have rp:=h.rng p hp
   have hpos:=thereTo_pos (lf:=leftOf L o t) hx (by omega) L.length hp (fun k hk=>(h.rng k hk).1)
   have late:∀ k,k < L.length->(t:Int)+1<=X L k->Z ((leftOf L o t).set p (Z (leftOf L o t) p - 1)) k=Y L k:=fun k hk hk2=>by
    rw [Z_set hl,if_neg (by intro e2;subst e2;omega)]
    exact h.late k hk (by omega)
   refine ⟨by rw [List.length_set];exact h.len,fun k hk=>?_,fun k hk hk2=>late k hk (by omega),?_⟩
   ·rw [Z_set hl]
    have r:=h.rng k hk
    split
    ·rename_i e2;subst e2;omega
    ·exact r
   ·rw [show ((t+1:Nat):Int)=(t:Int)+1 by omega,thereTo_next late _ (Nat.le_refl _),thereTo_set hl,if_pos ⟨hp,hx⟩,hw]
    unfold arr;omega
theorem done_late {L:List (Int×Int)} (hc:cOk L=true) {o:List Int} {n:Nat} (ho:unitsOk L o n=true) (hn:∀ k,k < L.length->Z (leftOf L o n) k<=0):lastLeave L<=n:=by
 have inv:=leftOf_inv hc ho n (Nat.le_refl _)
 have hz:∀ k,k < L.length->Z (leftOf L o n) k=0:=fun k hk=>by have:=inv.rng k hk;have:=hn k hk;omega
 have hw:wk L n=0:=by
  have h0:=thereTo_none (L:=L) (lf:=leftOf L o n) (t:=n) L.length (fun k hk=>.inr (hz k hk))
  have:=inv.sum
  have:=wk_nn hc n
  omega
 have hall:cnt L n=L.length:=by
  refine cnt_of (Nat.le_refl _) (fun k hk=>?_) (fun h=>absurd h (Nat.lt_irrefl _))
  refine Int.le_of_not_gt fun hgt=>?_
  have:=inv.late k hk (by omega)
  have:=hz k hk
  have:=cOk_bd hc hk
  omega
 rw [wk_fwd hc,hall] at hw
 rw [lastLeave_fwd hc]
 omega
theorem ordOk_parts {L:List (Int×Int)} {o:List Int} (h:ordOk L o=true):cOk L=true∧o.length<=200∧unitsOk L o o.length=true∧noneLeft (leftOf L o o.length) L.length=true:=by
 simp only [ordOk,Bool.and_eq_true,decide_eq_true_eq] at h
 exact ⟨h.1.1.1,h.1.1.2,h.1.2,h.2⟩
end
section
def endTo (o:List Int) (k:Nat):Nat->Int
 | 0=>0
 | t+1=>if Z o t=k then (t:Int)+1 else endTo o k t
def endsL (L:List (Int×Int)) (o:List Int) (n:Nat):List Int:=(List.range n).map fun k=>endTo o k o.length
def ends (L:List (Int×Int)) (o:List Int):List Int:=if ordOk L o=true then endsL L o L.length else []
theorem endsL_len (L:List (Int×Int)) (o:List Int) (n:Nat):(endsL L o n).length=n:=by simp [endsL]
theorem endsL_succ (L:List (Int×Int)) (o:List Int) (n:Nat):endsL L o (n+1)=endsL L o n++[endTo o n o.length]:=by simp [endsL,List.range_succ]
theorem endsL_Z {L:List (Int×Int)} {o:List Int} {n k:Nat} (h:k < n):Z (endsL L o n) k=endTo o k o.length:=by simp [Z,endsL,h]
theorem ends_yes {L:List (Int×Int)} {o:List Int} (h:ordOk L o=true):ends L o=endsL L o L.length:=if_pos h
theorem ends_no {L:List (Int×Int)} {o:List Int} (h:ordOk L o=false):ends L o=[]:=by simp [ends,h]
theorem endTo_le (o:List Int) (k:Nat):∀ t,0<=endTo o k t∧endTo o k t<=t:=by
 intro t
 induction t with
 | zero=>simp [endTo]
 | succ t ih=>simp only [endTo];split <;> omega
theorem stepL_other {lf:List Int} {who:Int} {k:Nat} (h:who≠k) (hw:who < lf.length):Z (stepL lf who) k=Z lf k:=by
 unfold stepL
 split
 ·rw [Z_set (by omega),if_neg (by omega)]
 ·rfl
theorem unit_range {L:List (Int×Int)} {o:List Int} {n t:Nat} (ho:unitsOk L o n=true) (ht:t < n):Z o t < L.length:=by
 rcases unitOk_cases (unitsOk_at n ho t ht) with e | ⟨p,e,hp,_⟩
 ·omega
 ·omega
theorem leftOf_same {L:List (Int×Int)} {o:List Int} {n:Nat} (ho:unitsOk L o n=true) {k a:Nat}:∀ t,a<=t->t<=n->(∀ u,a<=u->u < t->Z o u≠k)->Z (leftOf L o t) k=Z (leftOf L o a) k:=by
 intro t
 induction t with
 | zero=>intro h1 _ _;rw [show a=0 by omega]
 | succ t ih =>
  intro h1 h2 h3
  by_cases e:a=t+1
  ·rw [e]
  ·have i:=ih (by omega) (by omega) (fun u h4 h5=>h3 u h4 (by omega))
   rw [<- i]
   exact stepL_other (h3 t (by omega) (by omega)) (by rw [leftOf_len];exact unit_range ho (by omega))
theorem served_end {L:List (Int×Int)} (hc:cOk L=true) {o:List Int} {n:Nat} (ho:unitsOk L o n=true) {k:Nat} (hk:k < L.length):∀ t,t<=n->Y L k - Z (leftOf L o t) k<=max 0 (endTo o k t - X L k):=by
 intro t
 induction t with
 | zero =>
  intro _
  show Y L k - Z (needs L) k<=_
  rw [needs_Z hk];omega
 | succ t ih =>
  intro ht
  have i:=ih (by omega)
  have el:=endTo_le o k t
  by_cases e:Z o t=k
  ·rcases unitOk_cases (unitsOk_at n ho t (by omega)) with e2 | ⟨p,e2,hp,hx,_⟩
   ·omega
   ·obtain rfl:p=k:=by omega
    have es:leftOf L o (t+1)=(leftOf L o t).set p (Z (leftOf L o t) p - 1):=by simp only [leftOf,e2];simp [stepL]
    rw [es,Z_set (by rw [leftOf_len];exact hp),if_pos rfl]
    simp only [endTo]
    rw [if_pos e]
    omega
  ·have s:=leftOf_same ho (k:=k) (a:=t) (t+1) (by omega) ht (fun u h1 h2=>by rw [show u=t by omega];exact e)
   rw [s]
   simp only [endTo]
   rw [if_neg e]
   exact i
theorem ends_need {L:List (Int×Int)} {o:List Int} (h:ordOk L o=true) {k:Nat} (hk:k < L.length):X L k+Y L k<=endTo o k o.length:=by
 obtain ⟨hc,_,hu,hn⟩:=ordOk_parts h
 have s:=served_end hc hu hk o.length (Nat.le_refl _)
 have z:=noneLeft_at _ hn k hk
 have bd:=cOk_bd hc hk
 omega
theorem unitsOk_le {L:List (Int×Int)} {o:List Int} {n m:Nat} (h:unitsOk L o n=true) (hm:m<=n):unitsOk L o m=true:=unitsOk_of _ fun t ht=>unitsOk_at n h t (by omega)
end
section
end
section
attribute [local go_sem ↓] Go.wp_at_zero Go.wp_at_succ
theorem c_l4Pick (L:List (Int×Int)) (lf:List Int) (A G:Option Addr) (BA BG c g:Nat) (t:Nat) (rule:Int) (w:World) (hA:Cs w BA A L) (hG:Is w BG G lf) (hlf:lf.length=L.length) (hn:L.length<=140737488351232) :
  Calls Tryz.prog 122 #[.slice A L.length c,.slice G lf.length g,.int .i64 t,.int .i64 rule] w fun e w'=>e=.returned (.int .i64 (pick L lf t rule))∧∃ m,w'=w.drewN m:=by
 have HLF:=Lib.hid hlf
 rw [hlf]
 clear hlf
 go_enter Tryz.func122,Tryz.ntmps122
 go_wp2_with fail
 go_loopw [9,10] (fun q i wr=>∃ k m:Nat,k<=L.length∧i=.int .i64 k∧q=.int .i64 (pickTo L lf t rule k)∧wr=w.drewN m) (fun _ i _=>L.length - (intOf i).toNat)
 case atStart=>exact ⟨0,0,Nat.zero_le _,rfl,rfl,rfl⟩
 case round =>
  obtain ⟨k,m,hk,rfl,rfl,rfl⟩:=hrel
  by_cases hlt:k < L.length
  ·obtain ⟨b,off,rfl,hlb,hc⟩:=hA (by omega)
   obtain ⟨gb,go,rfl,hgb,hgc⟩:=hG (by rw [HLF.out];omega)
   have c1:=(hc k hlt).1
   have c2:=hgc k (by rw [HLF.out];omega)
   have HGC:=Lib.hid hgc
   clear hc hgc
   have p1:(0:Int)<=(k:Int):=by omega
   have p2:(k:Int) < (L.length:Int):=by omega
   have hE:pickTo L lf t rule (k+1)=pickStep L lf t rule (pickTo L lf t rule k) k:=rfl
   have HE:=Lib.hid hE
   clear hE
   by_cases ha:(t:Int) < X L k
   ·have E:=Lib.hid (show pickTo L lf t rule (k+1)=pickTo L lf t rule k by rw [HE.out,pickStep,if_pos (.inl ha)])
    go_wp2_with fail
    go_roundw
    case rel=>exact ⟨k+1,m,by omega,by go_num,by rw [E.out],rfl⟩
    case measure=>simp [intOf];omega
   ·by_cases hz:Z lf k=0
    ·have hzb:(Z lf k == 0)=true:=beq_iff_eq.2 hz
     have E:=Lib.hid (show pickTo L lf t rule (k+1)=pickTo L lf t rule k by rw [HE.out,pickStep,if_pos (.inr hz)])
     clear hz
     go_wp2_with fail
     go_roundw
     case rel=>exact ⟨k+1,m,by omega,by go_num,by rw [E.out],rfl⟩
     case measure=>simp [intOf];omega
    ·have hzb:(Z lf k == 0)=false:=beq_eq_false_iff_ne.2 hz
     have hno:¬ ((t:Int) < X L k∨Z lf k=0):=fun h=>h.elim ha hz
     have HS:=Lib.hid (show pickTo L lf t rule (k+1)=_ from by rw [HE.out,pickStep,if_neg hno])
     rcases pickTo_ok L lf t rule k with ⟨e,_⟩ | ⟨p,e,hp,_,_⟩
     ·have E:=Lib.hid (show pickTo L lf t rule (k+1)=k by rw [HS.out,e,if_pos (by omega)])
      rw [e]
      clear hz hno e
      go_wp2_with fail
      go_roundw
      case rel=>exact ⟨k+1,m,by omega,by go_num,by rw [E.out],rfl⟩
      case measure=>simp [intOf];omega
     ·have c3:=HGC.out p (by rw [HLF.out];omega)
      have ep:((p:Int)).toNat=p:=by simp
      have HS2:=Lib.hid (show pickTo L lf t rule (k+1)=_ from by rw [HS.out,e,if_neg (by omega),ep])
      rw [e]
      have p3:(0:Int)<=(p:Int):=by omega
      have p4:(p:Int) < (L.length:Int):=by omega
      clear hz hno e ep
      by_cases h1:rule=1
      ·have E:=Lib.hid (show pickTo L lf t rule (k+1)=k by rw [HS2.out,if_pos h1])
       have h1b:(rule == 1)=true:=beq_iff_eq.2 h1
       clear h1
       go_wp2_with fail
       go_roundw
       case rel=>exact ⟨k+1,m,by omega,by go_num,by rw [E.out],rfl⟩
       case measure=>simp [intOf];omega
      ·have h1b:(rule == 1)=false:=beq_eq_false_iff_ne.2 h1
       have HS3:=Lib.hid (show pickTo L lf t rule (k+1)=_ from by rw [HS2.out,if_neg h1])
       by_cases h2:rule=2
       ·have h2b:(rule == 2)=true:=beq_iff_eq.2 h2
        have h3b:(rule == 3)=false:=beq_eq_false_iff_ne.2 (by omega)
        by_cases h4:Z lf k < Z lf p
        ·have E:=Lib.hid (show pickTo L lf t rule (k+1)=k by rw [HS3.out,if_pos ⟨h2,h4⟩])
         have hd:decide (Z lf k < Z lf p)=true:=decide_eq_true h4
         clear h1 h2 h4
         go_wp2_with fail
         go_quiet (fail)
         go_wp2_with fail
         go_roundw
         case rel=>exact ⟨k+1,_,by omega,by go_num,by rw [E.out],rfl⟩
         case measure=>simp [intOf];omega
        ·have E:=Lib.hid (show pickTo L lf t rule (k+1)=p by rw [HS3.out,if_neg (fun h=>h4 h.2),if_neg (by omega)])
         have hd:decide (Z lf k < Z lf p)=false:=decide_eq_false h4
         clear h1 h2 h4
         go_wp2_with fail
         go_quiet (fail)
         go_wp2_with fail
         go_quiet (fail)
         go_wp2_with fail
         go_roundw
         case rel=>exact ⟨k+1,_,by omega,by go_num,by rw [E.out],rfl⟩
         case measure=>simp [intOf];omega
       ·have h2b:(rule == 2)=false:=beq_eq_false_iff_ne.2 h2
        by_cases h3:rule=3
        ·have h3b:(rule == 3)=true:=beq_iff_eq.2 h3
         by_cases h4:Z lf p < Z lf k
         ·have E:=Lib.hid (show pickTo L lf t rule (k+1)=k by rw [HS3.out,if_neg (by omega),if_pos ⟨h3,h4⟩])
          have hd:decide (Z lf p < Z lf k)=true:=decide_eq_true h4
          clear h1 h2 h3 h4
          go_wp2_with fail
          go_quiet (fail)
          go_wp2_with fail
          go_quiet (fail)
          go_wp2_with fail
          go_roundw
          case rel=>exact ⟨k+1,_,by omega,by go_num,by rw [E.out],rfl⟩
          case measure=>simp [intOf];omega
         ·have E:=Lib.hid (show pickTo L lf t rule (k+1)=p by rw [HS3.out,if_neg (by omega),if_neg (fun h=>h4 h.2)])
          have hd:decide (Z lf p < Z lf k)=false:=decide_eq_false h4
          clear h1 h2 h3 h4
          go_wp2_with fail
          go_quiet (fail)
          go_wp2_with fail
          go_quiet (fail)
          go_wp2_with fail
          go_roundw
          case rel=>exact ⟨k+1,_,by omega,by go_num,by rw [E.out],rfl⟩
          case measure=>simp [intOf];omega
        ·have h3b:(rule == 3)=false:=beq_eq_false_iff_ne.2 h3
         have E:=Lib.hid (show pickTo L lf t rule (k+1)=p by rw [HS3.out,if_neg (by omega),if_neg (by omega)])
         clear h1 h2 h3
         go_wp2_with fail
         go_quiet (fail)
         go_wp2_with fail
         go_quiet (fail)
         go_wp2_with fail
         go_roundw
         case rel=>exact ⟨k+1,_,by omega,by go_num,by rw [E.out],rfl⟩
         case measure=>simp [intOf];omega
  ·have hlf:¬ ((k:Int) < (L.length:Int)):=by omega
   go_wp2_with fail
   go_ret
   obtain rfl:k=L.length:=by omega
   exact ⟨rfl,_,rfl⟩
end
section
attribute [local go_sem ↓] Go.wp_at_zero Go.wp_at_succ
def needsTo (L:List (Int×Int)) (k:Nat):List Int:=(needs L).take k
theorem needsTo_len {L:List (Int×Int)} {k:Nat} (h:k<=L.length):(needsTo L k).length=k:=by rw [needsTo,List.length_take,needs_len];omega
theorem needs_take_succ {L:List (Int×Int)} {k:Nat} (h:k < L.length):needsTo L (k+1)=needsTo L k++[Y L k]:=by
 unfold needsTo
 rw [List.take_succ_eq_append_getElem (by rw [needs_len];exact h)]
 congr 2
 simp [needs,Y,h]
theorem IO.mid {w w':World} {base lo hi:Nat} {v:Value} {xs:List Int} (h:IO w base v xs) (hm:Mid lo hi w w') (hr:∀ r,v.ownBlock=some r->lo < r∧r < hi):IO w' base v xs:=by
 refine ⟨h.1,?_⟩
 rcases h.2 with h2 | ⟨g,cap,cur,rfl,hgb,hh,rest⟩
 ·exact .inl h2
 ·have:=hr g (by simp [Value.ownBlock])
  exact .inr ⟨g,cap,cur,rfl,hgb,by rw [hm g this.1 this.2];exact hh,rest⟩
def byOk (L:List (Int×Int)) (r:Int):Bool:=cOk L && decide (0<=r∧r<=3)
def orderR (L:List (Int×Int)) (r:Int):List Int:=if byOk L r=true then orderTo L r (lastLeave L).toNat else []
theorem orderR_yes {L:List (Int×Int)} {r:Int} (h:byOk L r=true):orderR L r=orderTo L r (lastLeave L).toNat:=if_pos h
theorem orderR_no {L:List (Int×Int)} {r:Int} (h:byOk L r=false):orderR L r=[]:=by simp [orderR,h]
theorem c_sOrderBy (L:List (Int×Int)) (A:Option Addr) (c:Nat) (r:Int) (w:World) (hA:Cs w w.heap.size A L) (hn:L.length<=140737488351232) :
  Calls Tryz.prog 78 #[.slice A L.length c,.int .i64 r] w fun e w'=>∃ v,e=.returned v∧IO w' w.heap.size v (orderR L r)∧Below w.heap.size w w':=by
 have hb0:Below w.heap.size w (w.alloc (.cells #[] 3)):=by (repeat (first | exact rfl | exact Below.refl _ _ | (with_reducible refine Below.drew ?_) | (with_reducible refine Below.drewN ?_ _) | (with_reducible refine Below.alloc ?_ ?_ _) | (with_reducible refine Below.setCell ?_ ?_ _) | (show _<=_;focus (first | omega | (simp;done) | (simp;omega)))))
 have own0:=IO.empty w (Nat.le_refl w.heap.size)
 by_cases hp:byOk L r=true
 ·have HV:=Lib.hid (orderR_yes hp)
  obtain ⟨hok,hr⟩:cOk L=true∧decide (0<=r∧r<=3)=true:=by simpa [byOk] using hp
  obtain ⟨T,hT,hT2⟩:=lastLeave_nat hok
  have HT:=Lib.hid hT
  have HR:=Lib.hid hr
  have H:=Lib.hid hok
  have hlen:=cOk_len hok
  have HI:=Lib.hid (fun t=>ordL_inv hok r t)
  have HB0:=Lib.hid hb0
  clear hp hok hr hT hb0
  go_enter Tryz.func78,Tryz.ntmps78
  go_wp2_with fail
  refine (c_sCustomersOk L A c _ ((hA.below HB0.out).more HB0.out.size) hn).mono ?_
  rintro e w1 ⟨rfl,hb1⟩
  rw [H.out]
  have own1:=own0.below hb1 (Nat.le_refl _)
  have hbx:=HB0.out.trans (hb1.mono HB0.out.size)
  have hsx:w.heap.size < w1.heap.size:=by have:=hb1.size;simp at this;omega
  have K:=c_l1In r 0 3 w1
  rw [HR.out] at K
  have HK:=Lib.hid K
  clear K hb1 own0 HB0
  go_wp2_with fail
  refine HK.out.mono ?_
  rintro e w2 ⟨rfl,rfl⟩
  clear HK
  go_wp2_with fail
  have hbz:Below w2.heap.size w2 (w2.alloc (.cells #[] 3)):=by (repeat (first | exact rfl | exact Below.refl _ _ | (with_reducible refine Below.drew ?_) | (with_reducible refine Below.drewN ?_ _) | (with_reducible refine Below.alloc ?_ ?_ _) | (with_reducible refine Below.setCell ?_ ?_ _) | (show _<=_;focus (first | omega | (simp;done) | (simp;omega)))))
  go_loopw [6,7] (fun o i wr=>∃ k:Nat,k<=L.length∧i=.int .i64 k∧IO wr w2.heap.size o (needsTo L k)∧Below w2.heap.size w2 wr) (fun _ i _=>L.length - (intOf i).toNat)
  case atStart=>exact ⟨0,by omega,rfl,IO.empty w2 (Nat.le_refl _),hbz⟩
  case round =>
   obtain ⟨k,hk,rfl,hown,hb⟩:=hrel
   have hsz:=hb.size
   by_cases hlt:k < L.length
   ·obtain ⟨b,off,rfl,hlb,hc⟩:=hA (by omega)
    have c1:=(hb.cell (p:=⟨b,off+k * 2+1,none⟩) (by show b < _;omega)).trans ((hbx.cell (p:=⟨b,off+k * 2+1,none⟩) hlb).trans (hc k hlt).2)
    have q5:(needsTo L k).length<=1000000000000:=by rw [needsTo_len (by omega)];omega
    clear hc
    go_wp2_with (refine app_I ?_ (.tmp 27) (.tmp 33) ?_ w2.heap.size u6 (needsTo L k) (Y L k) wr.heap.size ?_ ?_ ?_ ?_ ?_ ?_ ?_;rfl;rfl;rfl;exact (hown.alloc _);rfl;exact (heap_alloc_new _ _);exact q5;exact (Nat.le_trans hsz (by simp));intro g7 cap w7 hown7 hgr7 hb7)
    go_roundw
    case rel =>
     refine ⟨k+1,by omega,by go_num,by rw [needs_take_succ hlt];exact hown7,?_⟩
     refine Below.trans ?_ hb7
     (repeat (first | exact hb | exact Below.refl _ _ | (with_reducible refine Below.drew ?_) | (with_reducible refine Below.drewN ?_ _) | (with_reducible refine Below.alloc ?_ ?_ _) | (with_reducible refine Below.setCell ?_ ?_ _) | (show _<=_;focus (first | omega | (simp;done) | (simp;omega)))))
    case measure=>simp [intOf];omega
   ·have hlf:¬ ((k:Int) < (L.length:Int)):=by omega
    have hown3:IO wr w2.heap.size u6 (ordL L r 0):=by
     have e:needsTo L k=needs L:=List.take_of_length_le (by rw [needs_len];omega)
     rw [e] at hown
     exact hown
    have hbw:=hbx.trans (hb.mono (by omega))
    have own3:=own1.below hb (Nat.le_refl _)
    have hlr:∀ rr,u6.ownBlock=some rr->w.heap.size < rr∧rr < wr.heap.size:=fun rr e=>⟨by have:=owns_base hown3 rr e;omega,owns_lt hown3 rr e⟩
    have HLR:=Lib.hid hlr
    obtain ⟨G,g,hu6,hg1,hG⟩:=hown3.formG
    have hll:(ordL L r 0).length=L.length:=needs_len L
    clear hown hb hk hlr hbz own1 hG hg1
    rw [hll] at hu6
    subst hu6
    go_wp2_with fail
    obtain ⟨w3,hw3⟩:∃ x,x=wr:=⟨_,rfl⟩
    rw [<- hw3] at hown3 own3 hbw hsz HLR ⊢
    clear hw3
    go_loopw [5,8] (fun o i wq=>∃ t:Nat,t<=T∧i=.int .i64 t∧IO wq w.heap.size o (orderTo L r t)∧Hid (Sep w.heap.size w3.heap.size o)∧IO wq w2.heap.size (.slice G L.length g) (ordL L r t)∧w3.heap.size<=wq.heap.size∧Below w.heap.size w wq) (fun _ i _=>T - (intOf i).toNat)
    case atStart=>exact ⟨0,by omega,rfl,own3,Sep.lo _ _ _ _,hown3,Nat.le_refl _,hbw⟩
    case round =>
     obtain ⟨t,ht,rfl,hown,hsep,hleft,hz,hb⟩:=hrel
     have hsq:=hb.size
     have K:=c_sLastLeave L A c wr ((hA.below hb).more hsq) hn
     rw [HT.out] at K
     have HK:=Lib.hid K
     clear K
     by_cases hlt:t < T
     ·have hpk:=(HI.out t).picks r
      have hln:=(HI.out t).len
      have hE:ordL L r (t+1)=stepL (ordL L r t) (ordW L r t):=rfl
      have hO:=orderTo_succ L r t
      have HE:=Lib.hid hE
      have HO:=Lib.hid hO
      have HP:=Lib.hid hpk
      clear hE hO hpk
      go_wp2_with fail
      refine HK.out.mono ?_
      rintro e w5 ⟨rfl,hb5⟩
      have hown5:=hown.below hb5 (Nat.le_refl _)
      have hleft5:=hleft.below hb5 (Nat.le_refl _)
      have hb6:=hb.trans (hb5.mono hsq)
      have hz5:w3.heap.size<=w5.heap.size:=Nat.le_trans hz hb5.size
      have hA5:=(hA.below hb6).more hb6.size
      have K2:=c_l4Pick L (ordL L r t) A G w5.heap.size w5.heap.size c g t r w5 hA5 hleft5.isOf.2 hln hn
      rw [hln] at K2
      have HK2:=Lib.hid K2
      clear K2 hown hleft hb5 HK hb hsq hz
      go_wp2_with fail
      refine HK2.out.mono ?_
      rintro e w6 ⟨rfl,m,rfl⟩
      have e0:pick L (ordL L r t) t r=ordW L r t:=rfl
      rw [e0]
      clear e0 HK2
      have hownq:IO (w5.drewN m) w.heap.size u5 (orderTo L r t):=hown5
      have hleftq:IO (w5.drewN m) w2.heap.size (.slice G L.length g) (ordL L r t):=hleft5
      have hbq:Below w.heap.size w (w5.drewN m):=by (repeat (first | exact hb6 | exact Below.refl _ _ | (with_reducible refine Below.drew ?_) | (with_reducible refine Below.drewN ?_ _) | (with_reducible refine Below.alloc ?_ ?_ _) | (with_reducible refine Below.setCell ?_ ?_ _) | (show _<=_;focus (first | omega | (simp;done) | (simp;omega)))))
      have hzq:w3.heap.size<=(w5.drewN m).heap.size:=hz5
      generalize w5.drewN m=wq at hownq hleftq hbq hzq ⊢
      clear hown5 hleft5 hb6 hz5 hA5
      have q5:(orderTo L r t).length<=1000000000000:=by rw [orderTo_len];omega
      have hal:Below wq.heap.size wq (wq.alloc (.cells #[.int .i64 (ordW L r t)] 3)):=(Below.refl _ _).alloc (Nat.le_refl _) _
      have HU:=Lib.hid (And.intro q5 (And.intro hbq (And.intro hzq (And.intro hal hleftq))))
      clear q5 hbq hzq hal hleftq
      rcases HP.out with ⟨e,_⟩ | ⟨p,e,hpl,hpx,hpz,_⟩
      ·have e':ordW L r t=-1:=e
       have E:=Lib.hid (show ordL L r (t+1)=ordL L r t by rw [HE.out,e'];simp [stepL])
       have EW:=Lib.hid e'
       rw [e'] at HU ⊢
       clear e e'
       go_wp2_with (refine app_IS ?_ (.tmp 46) (.tmp 48) ?_ w.heap.size u5 (orderTo L r t) (-1) wq.heap.size ?_ ?_ ?_ ?_ ?_ ?_ w.heap.size w3.heap.size wq ?_ ?_ ?_ ?_;rfl;rfl;rfl;exact (hownq.alloc _);rfl;exact (heap_alloc_new _ _);exact HU.out.1;exact (Nat.le_trans HU.out.2.1.size (by simp));exact hsep.out;exact ((Mid.refl _ _ _).below HU.out.2.2.2.1 HU.out.2.2.1);exact (Nat.le_trans HU.out.2.2.1 (by simp));intro g7 cap w7 hown7 hb70 hsep7 hmid7)
       have hz7:=hb70.size
       have hl7:=HU.out.2.2.2.2.mid hmid7 HLR.out
       go_roundw
       case rel =>
        refine ⟨t+1,by omega,by go_num,by rw [HO.out,EW.out];exact hown7,hsep7,by rw [E.out];exact hl7,?_,?_⟩
        ·have:=HU.out.2.2.1;have:=HU.out.2.2.2.1.size;omega
        ·exact (HU.out.2.1.trans (HU.out.2.2.2.1.mono HU.out.2.1.size)).trans hb70
       case measure=>simp [intOf];omega
      ·have e':ordW L r t=(p:Int):=e
       have hpL:p < L.length:=by first | exact hpl | omega
       have E:=Lib.hid (show ordL L r (t+1)=(ordL L r t).set p (Z (ordL L r t) p - 1) by rw [HE.out,e'];simp [stepL])
       have EW:=Lib.hid e'
       obtain ⟨G',g',hu6,hg1,hG⟩:=HU.out.2.2.2.2.formG
       injection hu6 with e1 e2 e3
       subst e1
       subst e3
       obtain ⟨lb,rfl,hlb1,hlb2,hlc⟩:=hG (by omega)
       rw [e'] at HU ⊢
       have rg:=(HI.out t).rng p hpL
       have bd:=cOk_bd H.out hpL
       have ez:IntKind.i64.wrap (Z (ordL L r t) p - 1)=Z (ordL L r t) p - 1:=IntWalk.i64_in _ (by omega)
       clear e e' e2 hlc
       go_wp2_with (refine app_IS ?_ (.tmp 46) (.tmp 48) ?_ w.heap.size u5 (orderTo L r t) (p:Int) wq.heap.size ?_ ?_ ?_ ?_ ?_ ?_ w.heap.size w3.heap.size wq ?_ ?_ ?_ ?_;rfl;rfl;rfl;exact (hownq.alloc _);rfl;exact (heap_alloc_new _ _);exact HU.out.1;exact (Nat.le_trans HU.out.2.1.size (by simp));exact hsep.out;exact ((Mid.refl _ _ _).below HU.out.2.2.2.1 HU.out.2.2.1);exact (Nat.le_trans HU.out.2.2.1 (by simp));intro g7 cap w7 hown7 hb70 hsep7 hmid7;have hz7:=hb70.size;have hl7:=HU.out.2.2.2.2.mid hmid7 HLR.out;have c7:=hl7.cells.2.1 p hpL;have f7:=hl7.cells.2.2 p)
       have hl8:=hl7.store p (Z (ordL L r t) p - 1)
       have hne:∀ rr,(Value.slice (some ⟨g7,0,none⟩) ((orderTo L r t).length+1) cap).ownBlock=some rr->some lb≠some rr:=fun rr e q=>by
        have h1:=hsep7 rr e
        have h2:=HLR.out lb (by simp [Value.ownBlock])
        injection q with q
        omega
       have hg8:w7.grownBy (w7.setCell ⟨lb,p,none⟩ (.int .i64 (Z (ordL L r t) p - 1))) (some lb):=⟨rfl,rfl,rfl,by simp [World.setCell],fun k _ hne=>Below.heap_setCell _ _ _ _ (fun e=>hne (by rw [e]))⟩
       have hown8:=hown7.grownR' hg8 hne
       have hb8:Below w.heap.size w (w7.setCell ⟨lb,p,none⟩ (.int .i64 (Z (ordL L r t) p - 1))):=by
        have hb9:=(HU.out.2.1.trans (HU.out.2.2.2.1.mono HU.out.2.1.size)).trans hb70
        (repeat (first | exact hb9 | exact Below.refl _ _ | (with_reducible refine Below.drew ?_) | (with_reducible refine Below.drewN ?_ _) | (with_reducible refine Below.alloc ?_ ?_ _) | (with_reducible refine Below.setCell ?_ ?_ _) | (show _<=_;focus (first | omega | (simp;done) | (simp;omega)))))
       clear hl7 hown7 hg8 hne
       go_roundw
       case rel =>
        refine ⟨t+1,by omega,by go_num,by rw [HO.out,EW.out];exact hown8,hsep7,by rw [E.out];exact hl8,?_,hb8⟩
        have:=HU.out.2.2.1;have:=HU.out.2.2.2.1.size;simp [World.setCell];omega
       case measure=>simp [intOf];omega
     ·have hlf2:¬ ((t:Int) < (T:Int)):=by omega
      go_wp2_with fail
      refine HK.out.mono ?_
      rintro e w5 ⟨rfl,hb5⟩
      go_wp2_with fail
      go_ret
      refine ⟨_,rfl,?_,hb.trans (hb5.mono hsq)⟩
      rw [HV.out,HT.out,show ((T:Int)).toNat=t by omega]
      exact hown.below hb5 (Nat.le_refl _)
 ·have hp':byOk L r=false:=by simpa using hp
  have HV:=Lib.hid (orderR_no hp')
  have HB0:=Lib.hid hb0
  by_cases hok:cOk L=true
  ·have hr:decide (0<=r∧r<=3)=false:=by simpa [byOk,hok] using hp'
   have HR:=Lib.hid hr
   have H:=Lib.hid hok
   clear hp hp' hok hr hb0
   go_enter Tryz.func78,Tryz.ntmps78
   go_wp2_with fail
   refine (c_sCustomersOk L A c _ ((hA.below HB0.out).more HB0.out.size) hn).mono ?_
   rintro e w1 ⟨rfl,hb1⟩
   rw [H.out]
   have own1:=own0.below hb1 (Nat.le_refl _)
   have hbx:=HB0.out.trans (hb1.mono HB0.out.size)
   have K:=c_l1In r 0 3 w1
   rw [HR.out] at K
   have HK:=Lib.hid K
   clear K hb1 own0 HB0
   go_wp2_with fail
   refine HK.out.mono ?_
   rintro e w2 ⟨rfl,rfl⟩
   go_wp2_with fail
   go_ret
   exact ⟨_,rfl,by rw [HV.out];exact own1,hbx⟩
  ·have H:=Lib.hid (by simpa using hok:cOk L=false)
   clear hp hp' hok hb0
   go_enter Tryz.func78,Tryz.ntmps78
   go_wp2_with fail
   refine (c_sCustomersOk L A c _ ((hA.below HB0.out).more HB0.out.size) hn).mono ?_
   rintro e w1 ⟨rfl,hb1⟩
   rw [H.out]
   have own1:=own0.below hb1 (Nat.le_refl _)
   have hbx:=HB0.out.trans (hb1.mono HB0.out.size)
   clear hb1 own0 HB0
   go_wp2_with fail
   go_ret
   exact ⟨_,rfl,by rw [HV.out];exact own1,hbx⟩
end
section
attribute [local go_sem ↓] Go.wp_at_zero Go.wp_at_succ
theorem ordOk_bad {L:List (Int×Int)} {o:List Int} {t:Nat} (ht:t < o.length) (h:cOk L=true->unitOk L o t=false):ordOk L o=false:=by
 by_cases hc:cOk L=true
 ·have h:=h hc
  have:unitsOk L o o.length=false:=by
   by_cases hu:unitsOk L o o.length=true
   ·rw [unitsOk_at _ hu t ht] at h;cases h
   ·simpa using hu
  simp [ordOk,this]
 ·simp [ordOk,hc]
theorem ordOk_left {L:List (Int×Int)} {o lf:List Int} {k:Nat} (hk:k < L.length) (hz:0 < Z lf k) (h:cOk L=true->lf=leftOf L o o.length):ordOk L o=false:=by
 by_cases hc:cOk L=true
 ·have h:=h hc
  have:noneLeft (leftOf L o o.length) L.length=false:=by
   by_cases hu:noneLeft (leftOf L o o.length) L.length=true
   ·have:=noneLeft_at _ hu k hk;rw [<- h] at this;omega
   ·simpa using hu
  simp [ordOk,this]
 ·simp [ordOk,hc]
theorem left_bd {L:List (Int×Int)} {o:List Int} {k:Nat} (hk:k < L.length):∀ t,Y L k - t<=Z (leftOf L o t) k∧Z (leftOf L o t) k<=Y L k:=by
 intro t
 induction t with
 | zero=>show Y L k - _<=Z (needs L) k∧Z (needs L) k<=Y L k;rw [needs_Z hk];omega
 | succ t ih =>
  show _<=Z (stepL (leftOf L o t) (Z o t)) k∧Z (stepL (leftOf L o t) (Z o t)) k<=_
  unfold stepL
  split
  ·by_cases hq:(Z o t).toNat < (leftOf L o t).length
   ·rw [Z_set hq]
    split
    ·rename_i e;subst e;omega
    ·omega
   ·rw [List.set_eq_of_length_le (by omega)];omega
  ·omega
theorem c_sOrderOk (L:List (Int×Int)) (o:List Int) (A O:Option Addr) (c d:Nat) (w:World) (hA:Cs w w.heap.size A L) (hO:Is w w.heap.size O o) (hn:L.length<=1000000000000) (ho:o.length<=140737488351232) :
  Calls Tryz.prog 123 #[.slice A L.length c,.slice O o.length d] w fun e w'=>e=.returned (.bool (ordOk L o))∧Below w.heap.size w w':=by
 go_enter Tryz.func123,Tryz.ntmps123
 have hbz:Below w.heap.size w (w.alloc (.cells #[] 3)):=by (repeat (first | exact rfl | exact Below.refl _ _ | (with_reducible refine Below.drew ?_) | (with_reducible refine Below.drewN ?_ _) | (with_reducible refine Below.alloc ?_ ?_ _) | (with_reducible refine Below.setCell ?_ ?_ _) | (show _<=_;focus (first | omega | (simp;done) | (simp;omega)))))
 go_wp2_with fail
 go_loopw [5,6] (fun q i wr=>∃ k:Nat,k<=L.length∧i=.int .i64 k∧IO wr w.heap.size q (needsTo L k)∧Below w.heap.size w wr) (fun _ i _=>L.length - (intOf i).toNat)
 case atStart=>exact ⟨0,by omega,rfl,IO.empty w (Nat.le_refl _),hbz⟩
 case round =>
  obtain ⟨k,hk,rfl,hown,hb⟩:=hrel
  have hsz:=hb.size
  by_cases hlt:k < L.length
  ·obtain ⟨b,off,rfl,hlb,hc⟩:=hA (by omega)
   have c1:=(hb.cell (p:=⟨b,off+k * 2+1,none⟩) hlb).trans (hc k hlt).2
   have q5:(needsTo L k).length<=1000000000000:=by rw [needsTo_len (by omega)];omega
   clear hc
   go_wp2_with (refine app_I ?_ (.tmp 17) (.tmp 23) ?_ w.heap.size u5 (needsTo L k) (Y L k) wr.heap.size ?_ ?_ ?_ ?_ ?_ ?_ ?_;rfl;rfl;rfl;exact (hown.alloc _);rfl;exact (heap_alloc_new _ _);exact q5;exact (Nat.le_trans hsz (by simp));intro g7 cap w7 hown7 hgr7 hb7)
   go_roundw
   case rel =>
    refine ⟨k+1,by omega,by go_num,by rw [needs_take_succ hlt];exact hown7,?_⟩
    refine Below.trans ?_ hb7
    (repeat (first | exact hb | exact Below.refl _ _ | (with_reducible refine Below.drew ?_) | (with_reducible refine Below.drewN ?_ _) | (with_reducible refine Below.alloc ?_ ?_ _) | (with_reducible refine Below.setCell ?_ ?_ _) | (show _<=_;focus (first | omega | (simp;done) | (simp;omega)))))
   case measure=>simp [intOf];omega
  ·have hlf:¬ ((k:Int) < (L.length:Int)):=by omega
   have hown3:IO wr w.heap.size u5 (needs L):=by
    have e:needsTo L k=needs L:=List.take_of_length_le (by rw [needs_len];omega)
    rw [e] at hown
    exact hown
   obtain ⟨G,g,hu,hg1,hG⟩:=hown3.formG
   clear hown hk hlt hbz hG hg1
   rw [needs_len] at hu
   subst hu
   go_wp2_with fail
   obtain ⟨w3,hw3⟩:∃ x,x=wr:=⟨_,rfl⟩
   rw [<- hw3] at hown3 hb ⊢
   clear hsz hw3
   go_loopw [7] (fun i wq=>∃ t:Nat,t<=o.length∧i=.int .i64 t∧(∃ lf:List Int,lf.length=L.length∧IO wq w.heap.size (.slice G L.length g) lf∧Hid (cOk L=true->lf=leftOf L o t∧unitsOk L o t=true))∧Below w.heap.size w wq) (fun i _=>o.length - (intOf i).toNat)
   case atStart=>exact ⟨0,by omega,rfl,⟨needs L,needs_len L,hown3,fun _=>⟨rfl,rfl⟩⟩,hb⟩
   case round =>
    clear hb
    obtain ⟨t,ht,rfl,⟨lf,hlen,hown,HI⟩,hb⟩:=hrel
    have hsq:=hb.size
    by_cases hlt:t < o.length
    ·obtain ⟨ob,oo,rfl,hob,hoc⟩:=hO (by omega)
     have c0:=(hb.cell (p:=⟨ob,oo+t,none⟩) hob).trans (hoc t hlt)
     have e1:IntKind.i64.wrap ((L.length:Int) - 1)=(L.length:Int) - 1:=IntWalk.i64_in _ (by omega)
     clear hoc
     have HK:=Lib.hid (fun w=>c_l1In (Z o t) (-1) ((L.length:Int) - 1) w)
     by_cases hin:-1<=Z o t∧Z o t<=(L.length:Int) - 1
     ·have HD:=Lib.hid (show decide (-1<=Z o t∧Z o t<=(L.length:Int) - 1)=true from decide_eq_true hin)
      by_cases hm:Z o t=-1
      ·rw [hm] at c0 HK HD
       have HM:=Lib.hid hm
       clear hm hin
       go_wp2_with fail
       refine (HK.out _).mono ?_
       rintro e w1 ⟨rfl,rfl⟩
       rw [HD.out]
       go_wp2_with fail
       go_roundw
       case rel =>
        refine ⟨t+1,by omega,by go_num,⟨lf,hlen,hown,fun hc=>?_⟩,hb⟩
        obtain ⟨i1,i2⟩:=HI.out hc
        refine ⟨?_,?_⟩
        ·rw [i1];simp [leftOf,stepL,HM.out]
        ·simp [unitsOk,i2,unitOk,HM.out];omega
       case measure=>simp [intOf];omega
      ·obtain ⟨p,hp⟩:∃ p:Nat,Z o t=p:=⟨(Z o t).toNat,by omega⟩
       have hpL:p < L.length:=by omega
       rw [hp] at c0 HK HD
       have HM:=Lib.hid hp
       clear hm hin hp
       obtain ⟨b,off,rfl,hlb,hc⟩:=hA (by omega)
       have c1:=(hb.cell (p:=⟨b,off+p * 2,none⟩) hlb).trans (hc p hpL).1
       clear hc
       by_cases hx:(t:Int) < X L p
       ·have HB:=Lib.hid (ordOk_bad hlt (fun _=>by simp [unitOk,HM.out];omega):ordOk L o=false)
        go_wp2_with fail
        refine (HK.out _).mono ?_
        rintro e w1 ⟨rfl,rfl⟩
        rw [HD.out]
        go_wp2_with fail
        go_ret
        exact ⟨by rw [HB.out];rfl,hb⟩
       ·obtain ⟨G',g',hu6,hg1,hG⟩:=hown.formG
        injection hu6 with e1' e2' e3'
        subst e1'
        subst e3'
        obtain ⟨lb,rfl,hlb1,hlb2,hlc⟩:=hG (by omega)
        have c2:=hown.cells.2.1 p hpL
        have f2:=hown.cells.2.2 p
        clear hlc hg1 e2'
        by_cases hz:Z lf p=0
        ·have HB:=Lib.hid (ordOk_bad hlt (fun hc=>by have i:=(HI.out hc).1;simp [unitOk,HM.out,<- i,hz]):ordOk L o=false)
         have hzb:(Z lf p == 0)=true:=beq_iff_eq.2 hz
         clear hz
         go_wp2_with fail
         refine (HK.out _).mono ?_
         rintro e w1 ⟨rfl,rfl⟩
         rw [HD.out]
         go_wp2_with fail
         go_ret
         exact ⟨by rw [HB.out];rfl,hb⟩
        ·have hzb:(Z lf p == 0)=false:=beq_eq_false_iff_ne.2 hz
         have HZ:=Lib.hid hz
         have HX:=Lib.hid hx
         obtain ⟨y,hy⟩:∃ y,IntKind.i64.wrap (Z lf p - 1)=y:=⟨_,rfl⟩
         have hown8:=hown.store p y
         have hb8:Below w.heap.size w (wr.setCell ⟨lb,p,none⟩ (.int .i64 y)):=by (repeat (first | exact hb | exact Below.refl _ _ | (with_reducible refine Below.drew ?_) | (with_reducible refine Below.drewN ?_ _) | (with_reducible refine Below.alloc ?_ ?_ _) | (with_reducible refine Below.setCell ?_ ?_ _) | (show _<=_;focus (first | omega | (simp;done) | (simp;omega)))))
         have HN:=Lib.hid (fun hc:cOk L=true=>show lf.set p y=leftOf L o (t+1)∧unitsOk L o (t+1)=true by
          obtain ⟨i1,i2⟩:=HI.out hc
          have bd:=cOk_bd hc hpL
          have lb:=left_bd (o:=o) hpL t
          have ey:y=Z lf p - 1:=by rw [<- hy,i1];exact IntWalk.i64_in _ (by omega)
          refine ⟨?_,?_⟩
          ·rw [ey,i1];simp [leftOf,stepL,HM.out]
          ·have:=HX.out
           rw [i1] at hz
           simp [unitsOk,i2,unitOk,HM.out]
           exact ⟨by omega,.inr ⟨by omega,hz⟩⟩)
         have HW:=Lib.hid (And.intro hown8 hb8)
         clear hz hown8 hb8
         go_wp2_with fail
         refine (HK.out _).mono ?_
         rintro e w1 ⟨rfl,rfl⟩
         rw [HD.out]
         go_wp2_with fail
         go_roundw
         case rel=>exact ⟨t+1,by omega,by go_num,⟨_,by rw [List.length_set];exact hlen,HW.out.1,HN.out⟩,HW.out.2⟩
         case measure=>simp [intOf];omega
     ·have HD:=Lib.hid (show decide (-1<=Z o t∧Z o t<=(L.length:Int) - 1)=false from decide_eq_false hin)
      have HB:=Lib.hid (ordOk_bad hlt (fun _=>by simp [unitOk];intro h1 h2;exact absurd ⟨h1,by omega⟩ hin):ordOk L o=false)
      clear hin
      go_wp2_with fail
      refine (HK.out _).mono ?_
      rintro e w1 ⟨rfl,rfl⟩
      rw [HD.out]
      go_wp2_with fail
      go_ret
      exact ⟨by rw [HB.out];rfl,hb⟩
    ·have hlf2:¬ ((t:Int) < (o.length:Int)):=by omega
     obtain rfl:t=o.length:=by omega
     go_wp2_with fail
     obtain ⟨w4,hw4⟩:∃ x,x=wr:=⟨_,rfl⟩
     rw [<- hw4] at hown hb ⊢
     clear hsq hw4
     go_loopw [9] (fun i wp=>∃ k:Nat,k<=L.length∧i=.int .i64 k∧Hid (cOk L=true->noneLeft (leftOf L o o.length) k=true)∧IO wp w.heap.size (.slice G L.length g) lf∧Below w.heap.size w wp) (fun i _=>L.length - (intOf i).toNat)
     case atStart=>exact ⟨0,by omega,rfl,fun _=>rfl,hown,hb⟩
     case round =>
      clear hown hb
      obtain ⟨k,hk,rfl,HQ,hown,hb⟩:=hrel
      have hsp:=hb.size
      by_cases hlt:k < L.length
      ·obtain ⟨G',g',hu6,hg1,hG⟩:=hown.formG
       injection hu6 with e1' e2' e3'
       subst e1'
       subst e3'
       obtain ⟨lb,rfl,hlb1,hlb2,hlc⟩:=hG (by omega)
       have c2:=hown.cells.2.1 k hlt
       clear hlc hg1 e2' hG
       by_cases hz:0 < Z lf k
       ·have HB:=Lib.hid (ordOk_left hlt hz (fun hc=>(HI.out hc).1):ordOk L o=false)
        go_wp2_with fail
        go_ret
        exact ⟨by rw [HB.out];rfl,hb⟩
       ·have HZ:=Lib.hid hz
        go_wp2_with fail
        go_roundw
        case rel =>
         refine ⟨k+1,by omega,by go_num,fun hc=>?_,hown,hb⟩
         have:=HZ.out
         rw [(HI.out hc).1] at this
         simp [noneLeft,HQ.out hc];omega
        case measure=>simp [intOf];omega
      ·have hlf3:¬ ((k:Int) < (L.length:Int)):=by omega
       obtain rfl:k=L.length:=by omega
       have HK:=Lib.hid (c_sCustomersOk L A c wr ((hA.below hb).more hsp) (by omega))
       by_cases hc:cOk L=true
       ·have H:=Lib.hid hc
        by_cases hl:(o.length:Int)<=200
        ·have HB:=Lib.hid (show ordOk L o=true by
          have h1:=HI.out hc
          simp [ordOk,hc,h1.2,HQ.out hc];omega)
         clear hc
         go_wp2_with fail
         refine HK.out.mono ?_
         rintro e w5 ⟨rfl,hb5⟩
         rw [H.out]
         go_wp2_with fail
         go_ret
         exact ⟨by rw [HB.out];rfl,hb.trans (hb5.mono hsp)⟩
        ·have HB:=Lib.hid (show ordOk L o=false by
          simp [ordOk,hc];omega)
         clear hc
         go_wp2_with fail
         refine HK.out.mono ?_
         rintro e w5 ⟨rfl,hb5⟩
         rw [H.out]
         go_wp2_with fail
         go_ret
         exact ⟨by rw [HB.out];show Ending.returned (.bool (decide ((o.length:Int)<=200)))=_;rw [decide_eq_false (by omega)],hb.trans (hb5.mono hsp)⟩
       ·have H:=Lib.hid (show cOk L=false by simpa using hc)
        have HB:=Lib.hid (show ordOk L o=false by simp [ordOk,H.out])
        clear hc
        go_wp2_with fail
        refine HK.out.mono ?_
        rintro e w5 ⟨rfl,hb5⟩
        rw [H.out]
        go_wp2_with fail
        go_ret
        exact ⟨by rw [HB.out];rfl,hb.trans (hb5.mono hsp)⟩
end
section
attribute [local go_sem ↓] Go.wp_at_zero Go.wp_at_succ
theorem c_sEndsOf (L:List (Int×Int)) (o:List Int) (A O:Option Addr) (c d:Nat) (w:World) (hA:Cs w w.heap.size A L) (hO:Is w w.heap.size O o) (hn:L.length<=1000000000000) (ho:o.length<=140737488351232) :
  Calls Tryz.prog 154 #[.slice A L.length c,.slice O o.length d] w fun e w'=>∃ v,e=.returned v∧IO w' w.heap.size v (ends L o)∧Below w.heap.size w w':=by
 go_enter Tryz.func154,Tryz.ntmps154
 have hbz:Below w.heap.size w (w.alloc (.cells #[] 3)):=by (repeat (first | exact rfl | exact Below.refl _ _ | (with_reducible refine Below.drew ?_) | (with_reducible refine Below.drewN ?_ _) | (with_reducible refine Below.alloc ?_ ?_ _) | (with_reducible refine Below.setCell ?_ ?_ _) | (show _<=_;focus (first | omega | (simp;done) | (simp;omega)))))
 go_wp2_with fail
 go_loopw [5,6] (fun q i wr=>∃ k:Nat,k<=L.length∧i=.int .i64 k∧(ordOk L o=true∨k=0)∧IO wr w.heap.size q (endsL L o k)∧Below w.heap.size w wr) (fun _ i _=>L.length - (intOf i).toNat)
 case atStart=>exact ⟨0,by omega,rfl,.inr rfl,IO.empty w (Nat.le_refl _),hbz⟩
 case round =>
  obtain ⟨k,hk,rfl,hor,hown,hb⟩:=hrel
  have hsz:=hb.size
  by_cases hlt:k < L.length
  ·have HK:=Lib.hid (c_sOrderOk L o A O c d wr ((hA.below hb).more hsz) ((hO.below hb).more hsz) hn ho)
   by_cases hok:ordOk L o=true
   ·have H:=Lib.hid hok
    clear hok hor
    go_wp2_with fail
    refine HK.out.mono ?_
    rintro e w5 ⟨rfl,hb5⟩
    have hown5:=hown.below hb5 (Nat.le_refl _)
    have hb6:=hb.trans (hb5.mono hsz)
    have hz6:=hb6.size
    clear HK hown hb hb5 hsz
    rw [H.out]
    go_wp2_with fail
    go_loopw [7,8] (fun q i wq=>∃ t:Nat,t<=o.length∧i=.int .i64 t∧q=.int .i64 (endTo o k t)∧wq=w5) (fun _ i _=>o.length - (intOf i).toNat)
    case atStart=>exact ⟨0,by omega,rfl,rfl,rfl⟩
    case round =>
     obtain ⟨t,ht,rfl,rfl,rfl⟩:=hrel
     by_cases hlt2:t < o.length
     ·obtain ⟨ob,oo,rfl,hob,hoc⟩:=hO (by omega)
      have c0:=(hb6.cell (p:=⟨ob,oo+t,none⟩) hob).trans (hoc t hlt2)
      clear hoc
      by_cases he:Z o t=(k:Int)
      ·have heb:(Z o t == (k:Int))=true:=beq_iff_eq.2 he
       have E:=Lib.hid (show endTo o k (t+1)=(t:Int)+1 by simp [endTo,he])
       clear he
       go_wp2_with fail
       go_roundw
       case rel=>exact ⟨t+1,by omega,by go_num,by rw [E.out],trivial⟩
       case measure=>simp [intOf];omega
      ·have heb:(Z o t == (k:Int))=false:=beq_eq_false_iff_ne.2 he
       have E:=Lib.hid (show endTo o k (t+1)=endTo o k t by simp [endTo,he])
       clear he
       go_wp2_with fail
       go_roundw
       case rel=>exact ⟨t+1,by omega,by go_num,by rw [E.out],trivial⟩
       case measure=>simp [intOf];omega
     ·have hlf2:¬ ((t:Int) < (o.length:Int)):=by omega
      obtain rfl:t=o.length:=by omega
      have q5:(endsL L o k).length<=1000000000000:=by rw [endsL_len];omega
      go_wp2_with (refine app_I ?_ (.tmp 35) (.tmp 37) ?_ w.heap.size u5 (endsL L o k) (endTo o k o.length) wr.heap.size ?_ ?_ ?_ ?_ ?_ ?_ ?_;rfl;rfl;rfl;exact (hown5.alloc _);rfl;exact (heap_alloc_new _ _);exact q5;exact (Nat.le_trans hz6 (by simp));intro g7 cap w7 hown7 hgr7 hb7)
      go_roundw
      case rel =>
       refine ⟨k+1,by omega,by go_num,.inl H.out,by rw [endsL_succ];exact hown7,?_⟩
       refine Below.trans ?_ hb7
       (repeat (first | exact hb6 | exact Below.refl _ _ | (with_reducible refine Below.drew ?_) | (with_reducible refine Below.drewN ?_ _) | (with_reducible refine Below.alloc ?_ ?_ _) | (with_reducible refine Below.setCell ?_ ?_ _) | (show _<=_;focus (first | omega | (simp;done) | (simp;omega)))))
      case measure=>simp [intOf];omega
   ·have hok':ordOk L o=false:=by simpa using hok
    have H:=Lib.hid hok'
    obtain rfl:k=0:=by rcases hor with h | h;exact absurd h hok;exact h
    clear hok hok'
    go_wp2_with fail
    refine HK.out.mono ?_
    rintro e w5 ⟨rfl,hb5⟩
    rw [H.out]
    go_wp2_with fail
    go_ret
    exact ⟨_,rfl,by rw [ends_no H.out];exact hown.below hb5 (Nat.le_refl _),hb.trans (hb5.mono hsz)⟩
  ·have hlf:¬ ((k:Int) < (L.length:Int)):=by omega
   have HE:=Lib.hid (show ends L o=endsL L o k by
    rcases hor with h | h
    ·rw [ends_yes h];congr 1;omega
    ·subst h
     have e0:L.length=0:=by omega
     unfold ends;split
     ·rw [e0]
     ·rfl)
   clear hor
   go_wp2_with fail
   go_ret
   exact ⟨_,rfl,by rw [HE.out];exact hown,hb⟩
end
section
def sOut (a:Nat->Int) (S:Nat->Bool):Nat->Int
 | 0=>0
 | j+1=>sOut a S j+(if S j=true then 0 else a j)
def sCnt (S:Nat->Bool):Nat->Nat
 | 0=>0
 | j+1=>sCnt S j+(if S j=true then 1 else 0)
def Dom (n:Nat) (a b:Nat->Int):Prop:=∀ S,∃ S',sCnt S' n<=sCnt S n∧sOut a S' n<=sOut b S n
theorem sOut_congr {a b:Nat->Int} {S:Nat->Bool}:∀ j,(∀ i,i < j->a i=b i)->sOut a S j=sOut b S j:=by
 intro j
 induction j with
 | zero=>intro _;rfl
 | succ j ih=>intro h;simp only [sOut];rw [ih (fun i hi=>h i (by omega)),h j (by omega)]
theorem sOut_nn {a:Nat->Int} {S:Nat->Bool}:∀ j,(∀ i,i < j->0<=a i)->0<=sOut a S j:=by
 intro j
 induction j with
 | zero=>intro _;exact Int.le_refl _
 | succ j ih =>
  intro h
  have:=ih (fun i hi=>h i (by omega))
  have:=h j (by omega)
  simp only [sOut];split <;> omega
theorem Dom.refl (n:Nat) (a:Nat->Int):Dom n a a:=fun S=>⟨S,Nat.le_refl _,Int.le_refl _⟩
theorem Dom.done {n:Nat} {a b b':Nat->Int} (h:Dom n a b) (ha:∀ i,i < n->a i=0) (hb':∀ i,i < n->0<=b' i):Dom n a b':=by
 intro S
 refine ⟨S,Nat.le_refl _,?_⟩
 have:=sOut_nn (a:=b') (S:=S) n hb'
 have e:sOut a S n=sOut (fun _=>0) S n:=sOut_congr n ha
 have z:∀ j,sOut (fun _=>(0:Int)) S j=0:=by intro j;induction j with | zero=>rfl | succ j ih=>simp [sOut,ih]
 rw [e,z];exact this
def posTo (a:Nat->Int):Nat->Nat
 | 0=>0
 | j+1=>posTo a j+(if 0 < a j then 1 else 0)
theorem Dom.many {n:Nat} {a b:Nat->Int} (h:Dom n a b) (ha:∀ i,i < n->0<=a i) (hb:∀ i,i < n->0<=b i):posTo a n<=posTo b n:=by
 obtain ⟨S',hc,hs⟩:=h (fun i=>decide (0 < b i))
 have e1:∀ j,sCnt (fun i=>decide (0 < b i)) j=posTo b j:=by
  intro j;induction j with | zero=>rfl | succ j ih=>simp [sCnt,posTo,ih]
 have e2:∀ j,j<=n->sOut b (fun i=>decide (0 < b i)) j=0:=by
  intro j
  induction j with
  | zero=>intro _;rfl
  | succ j ih =>
   intro hj
   have:=hb j (by omega)
   simp only [sOut,ih (by omega),decide_eq_true_eq]
   split <;> omega
 rw [e2 n (Nat.le_refl _)] at hs
 rw [e1] at hc
 have e3:∀ j,j<=n->sOut a S' j<=0->posTo a j<=sCnt S' j:=by
  intro j
  induction j with
  | zero=>intro _ _;exact Nat.le_refl _
  | succ j ih =>
   intro hj hz
   have h1:=sOut_nn (a:=a) (S:=S') j (fun i hi=>ha i (by omega))
   have h2:=ha j (by omega)
   simp only [sOut] at hz
   have i:=ih (by omega) (by split at hz <;> omega)
   simp only [posTo,sCnt]
   cases hS:S' j
   ·rw [hS] at hz
    simp at hz ⊢
    rw [if_neg (by omega)];omega
   ·simp;split <;> omega
 have:=e3 n (Nat.le_refl _) hs
 omega
end
section
theorem Dom.congr {n:Nat} {a a' b b':Nat->Int} (h:Dom n a b) (ha:∀ i,i < n->a i=a' i) (hb:∀ i,i < n->b i=b' i):Dom n a' b':=by
 intro S
 obtain ⟨S',hc,hs⟩:=h S
 exact ⟨S',hc,by rw [<- sOut_congr n ha,<- sOut_congr n hb];exact hs⟩
def tmTo (L:List (Int×Int)) (o:List Int):Nat->Int
 | 0=>0
 | k+1=>tmTo L o k+(endTo o k o.length - X L k)
theorem tmTo_bd {L:List (Int×Int)} {o:List Int} (h:ordOk L o=true):∀ j,j<=L.length->0<=tmTo L o j∧tmTo L o j<=200 * j:=by
 obtain ⟨hc,hl,_,_⟩:=ordOk_parts h
 intro j
 induction j with
 | zero=>intro _;simp [tmTo]
 | succ j ih =>
  intro hj
  have bd:=cOk_bd hc (k:=j) (by omega)
  have:=ends_need h (k:=j) (by omega)
  have:=(endTo_le o j o.length).2
  have:=ih (by omega)
  simp only [tmTo];omega
end
end Go.Proofs.YthpccmkagikhjaaGreatDoor

import Derived.WalkKit
import Derived.Deep.QuietTactic
import Derived.BigQuiet
import Derived.WalkSpells
import Derived.Lib.Hide
namespace Go.Proofs.YthpccmkagikhjaaGreatDoor
set_option linter.unusedVariables false
open Go.RowKit
section
def X (L:List (Int×Int)) (k:Nat):Int:=(L.getD k (0,0)).1
def Y (L:List (Int×Int)) (k:Nat):Int:=(L.getD k (0,0)).2
def cok (x y:Int):Bool:=decide (0<=x∧x<=60) && decide (1<=y∧y<=9)
def prevOf (L:List (Int×Int)) (k:Nat):Int:=if k=0 then 0 else X L (k - 1)
def okAt (L:List (Int×Int)) (k:Nat):Bool:=cok (X L k) (Y L k) && decide (prevOf L k<=X L k)
def okTo (L:List (Int×Int)):Nat->Bool
 | 0=>true
 | k+1=>okTo L k && okAt L k
def cOk (L:List (Int×Int)):Bool:=decide (L.length<=8) && okTo L L.length
theorem okTo_le {L:List (Int×Int)} {n:Nat} (h:okTo L n=true):∀ k,k<=n->okTo L k=true:=by
 induction n with
 | zero=>intro k hk;obtain rfl:k=0:=by omega
         exact h
 | succ n ih =>
  intro k hk
  simp only [okTo,Bool.and_eq_true] at h
  by_cases e:k=n+1
  ·subst e;simp [okTo,h]
  ·exact ih h.1 k (by omega)
theorem okTo_no {L:List (Int×Int)} {k n:Nat} (hk:k < n) (h:okAt L k=false):okTo L n=false:=by
 cases e:okTo L n with
 | false=>rfl
 | true=>have:=okTo_le e (k+1) (by omega);simp [okTo,h] at this
def sumTo (L:List (Int×Int)):Nat->Int
 | 0=>0
 | k+1=>sumTo L k+Y L k
def needOf (L:List (Int×Int)):Int:=if cOk L=true then sumTo L L.length else -1
theorem cok_bd {x y:Int} (h:cok x y=true):0<=x∧x<=60∧1<=y∧y<=9:=by simp [cok] at h;omega
theorem okTo_at {L:List (Int×Int)} {n k:Nat} (h:okTo L n=true) (hk:k < n):okAt L k=true:=by
 have:=okTo_le h (k+1) (by omega);simp [okTo] at this;exact this.2
theorem okTo_bd {L:List (Int×Int)} {n k:Nat} (h:okTo L n=true) (hk:k < n):0<=X L k∧X L k<=60∧1<=Y L k∧Y L k<=9:=by
 have:=okTo_at h hk;simp [okAt] at this;exact cok_bd this.1
theorem okTo_prev {L:List (Int×Int)} {n k:Nat} (h:okTo L n=true) (hk:k < n):prevOf L k<=X L k:=by
 have:=okTo_at h hk;simp [okAt] at this;exact this.2
theorem cOk_len {L:List (Int×Int)} (h:cOk L=true):L.length<=8:=by simp [cOk] at h;exact h.1
theorem cOk_to {L:List (Int×Int)} (h:cOk L=true):okTo L L.length=true:=by simp [cOk] at h;exact h.2
theorem cOk_bd {L:List (Int×Int)} {k:Nat} (h:cOk L=true) (hk:k < L.length):0<=X L k∧X L k<=60∧1<=Y L k∧Y L k<=9:=okTo_bd (cOk_to h) hk
theorem cOk_mono {L:List (Int×Int)} (h:cOk L=true) {i j:Nat} (hij:i<=j) (hj:j < L.length):X L i<=X L j:=by
 induction j with
 | zero=>obtain rfl:i=0:=by omega
         exact Int.le_refl _
 | succ j ih =>
  by_cases e:i=j+1
  ·subst e;exact Int.le_refl _
  ·have h1:=ih (by omega) (by omega)
   have h2:=okTo_prev (cOk_to h) hj
   simp [prevOf] at h2;omega
theorem sumTo_bd {L:List (Int×Int)} (h:cOk L=true):∀ k,k<=L.length->(k:Int)<=sumTo L k∧sumTo L k<=9 * k:=by
 intro k
 induction k with
 | zero=>intro _;simp [sumTo]
 | succ k ih=>intro hk;have:=ih (by omega);have:=cOk_bd h (k:=k) (by omega);simp only [sumTo];omega
def Cells (w:World) (b off:Nat) (L:List (Int×Int)):Prop :=
 ∀ k,k < L.length->w.cell? ⟨b,off+k * 2,none⟩=some (.int .i64 (X L k))∧w.cell? ⟨b,off+k * 2+1,none⟩=some (.int .i64 (Y L k))
def Cs (w:World) (B:Nat) (A:Option Addr) (L:List (Int×Int)):Prop :=
 0 < L.length->∃ b off,A=some ⟨b,off,none⟩∧b < B∧Cells w b off L
theorem Cs.below {w w':World} {B:Nat} {A:Option Addr} {L:List (Int×Int)} (h:Cs w B A L) (hb:Below B w w'):Cs w' B A L:=by
 intro hn
 obtain ⟨b,off,rfl,hlt,hc⟩:=h hn
 exact ⟨b,off,rfl,hlt,fun k hk=>⟨(hb.cell (p:=⟨b,_,none⟩) hlt).trans (hc k hk).1,(hb.cell (p:=⟨b,_,none⟩) hlt).trans (hc k hk).2⟩⟩
theorem prevOf_pos {L:List (Int×Int)} {k:Nat} (h:0 < k):prevOf L k=X L (k - 1):=by simp [prevOf];omega
theorem prevOf_succ (L:List (Int×Int)) (k:Nat):prevOf L (k+1)=X L k:=rfl
theorem okAt_of {L:List (Int×Int)} {k:Nat} (h1:cok (X L k) (Y L k)=true) (h2:prevOf L k<=X L k):okAt L k=true:=by simp [okAt,h1,h2]
theorem okAt_no1 {L:List (Int×Int)} {k:Nat} (h1:cok (X L k) (Y L k)=false):okAt L k=false:=by simp [okAt,h1]
theorem okAt_no2 {L:List (Int×Int)} {k:Nat} (h2:X L k < prevOf L k):okAt L k=false:=by simp [okAt];omega
theorem Cs.more {w:World} {B B':Nat} {A:Option Addr} {L:List (Int×Int)} (h:Cs w B A L) (hb:B<=B'):Cs w B' A L:=by
 intro hn
 obtain ⟨b,off,rfl,hlt,hc⟩:=h hn
 exact ⟨b,off,rfl,by omega,hc⟩
theorem Below.drewN {B:Nat} {a w:World} (h:Below B a w) (n:Nat):Below B a (w.drewN n):=⟨h.os,h.tape,h.output,h.size,h.block⟩
theorem cOk_no {L:List (Int×Int)} {k:Nat} (hk:k < L.length) (h:okAt L k=false):cOk L=false:=by simp [cOk,okTo_no hk h]
theorem cOk_no1 {L:List (Int×Int)} {k:Nat} (hk:k < L.length) (h:¬ (0<=X L k∧X L k<=60)):cOk L=false:=cOk_no hk (by simp [okAt,cok];omega)
theorem cOk_no2 {L:List (Int×Int)} {k:Nat} (hk:k < L.length) (h:¬ (1<=Y L k∧Y L k<=9)):cOk L=false:=cOk_no hk (by simp [okAt,cok];omega)
theorem cOk_no3 {L:List (Int×Int)} {k:Nat} (hk:k < L.length) (h0:0 < k) (h:X L k < X L (k - 1)):cOk L=false:=cOk_no hk (by simp [okAt,prevOf_pos h0];omega)
theorem okTo_step {L:List (Int×Int)} {k:Nat} (h:okTo L k=true) (h1:0<=X L k∧X L k<=60) (h2:1<=Y L k∧Y L k<=9) (h3:0 < k->X L (k - 1)<=X L k):okTo L (k+1)=true:=by
 simp only [okTo,okAt,cok,h,h1,h2,Bool.and_eq_true,decide_eq_true_eq,and_true,true_and]
 by_cases h0:0 < k
 ·rw [prevOf_pos h0];exact h3 h0
 ·obtain rfl:k=0:=by omega
  exact h1.1
theorem cOk_end {L:List (Int×Int)} (h:okTo L L.length=true):(decide ((L.length:Int)<=8))=cOk L:=by simp [cOk,h];omega
theorem bcell {W w1:World} (hb:Below W.heap.size W w1):(∀ b o,b < W.heap.size->w1.cell? ⟨b,o,none⟩=W.cell? ⟨b,o,none⟩)∧(∀ b o,b < W.heap.size->w1.frozen? ⟨b,o,none⟩=W.frozen? ⟨b,o,none⟩) :=
 ⟨fun b o h=>hb.cell (p:=⟨b,o,none⟩) h,fun b o h=>hb.frozen (p:=⟨b,o,none⟩) h⟩
end
section
theorem X_take {L:List (Int×Int)} {n k:Nat} (h:k < n):X (L.take n) k=X L k:=by simp [X,h]
theorem Y_take {L:List (Int×Int)} {n k:Nat} (h:k < n):Y (L.take n) k=Y L k:=by simp [Y,h]
theorem prevOf_take {L:List (Int×Int)} {n k:Nat} (h:k < n):prevOf (L.take n) k=prevOf L k:=by
 unfold prevOf;split
 ·rfl
 ·exact X_take (by omega)
theorem okTo_take {L:List (Int×Int)} {n:Nat}:∀ k,k<=n->okTo (L.take n) k=okTo L k:=by
 intro k
 induction k with
 | zero=>intro _;rfl
 | succ k ih=>intro h;simp [okTo,ih (by omega),okAt,X_take (L:=L) (n:=n) (k:=k) (by omega),Y_take (L:=L) (n:=n) (k:=k) (by omega),prevOf_take (L:=L) (n:=n) (k:=k) (by omega)]
theorem len_take {L:List (Int×Int)} {n:Nat} (h:n<=L.length):(L.take n).length=n:=by simp;omega
theorem cOk_take {L:List (Int×Int)} {n:Nat} (h:cOk L=true) (hn:n<=L.length):cOk (L.take n)=true:=by
 have h1:=cOk_len h
 have h2:=okTo_le (cOk_to h) n hn
 simp only [cOk,len_take hn,okTo_take n (Nat.le_refl _),h2,Bool.and_true,decide_eq_true_eq]
 omega
theorem Cs.take {w:World} {B:Nat} {A:Option Addr} {L:List (Int×Int)} (h:Cs w B A L) (n:Nat):Cs w B A (L.take n):=by
 intro hn
 simp only [List.length_take] at hn
 obtain ⟨b,off,rfl,hlt,hc⟩:=h (by omega)
 refine ⟨b,off,rfl,hlt,fun k hk=>?_⟩
 simp only [List.length_take] at hk
 rw [X_take (by omega),Y_take (by omega)]
 exact hc k (by omega)
def cnt (L:List (Int×Int)) (t:Int):Nat:=(L.takeWhile fun c=>decide (c.1<=t)).length
theorem cnt_le (L:List (Int×Int)) (t:Int):cnt L t<=L.length:=(List.takeWhile_sublist _).length_le
theorem cnt_of {t:Int}:∀ {L:List (Int×Int)} {n:Nat},n<=L.length->(∀ j,j < n->X L j<=t)->(n < L.length->t < X L n)->cnt L t=n
 | [],n,h,_,_=>by simp at h;subst h;rfl
 | c::L,n,h,h1,h2=>by
  cases n with
  | zero =>
   have:=h2 (by simp)
   simp only [X,List.getD_cons_zero] at this
   have e:decide (c.1<=t)=false:=by simp;omega
   simp [cnt,e]
  | succ n =>
   have:=h1 0 (by omega)
   simp only [X,List.getD_cons_zero] at this
   have e:decide (c.1<=t)=true:=by simp;omega
   have ih:=cnt_of (t:=t) (L:=L) (n:=n) (by simpa using h) (fun j hj=>by simpa [X] using h1 (j+1) (by omega)) (fun hn=>by simpa [X] using h2 (by simpa using hn))
   unfold cnt at ih ⊢
   simp [e,ih]
theorem cnt_at {t:Int}:∀ {L:List (Int×Int)},(∀ j,j < cnt L t->X L j<=t)∧(cnt L t < L.length->t < X L (cnt L t))
 | []=>⟨fun j h=>by simp [cnt] at h,fun h=>by simp at h⟩
 | c::L=>by
  have ih:=cnt_at (t:=t) (L:=L)
  by_cases e:c.1<=t
  ·have hc:cnt (c::L) t=cnt L t+1:=by simp [cnt,e]
   rw [hc]
   refine ⟨fun j hj=>?_,fun h=>?_⟩
   ·cases j with
    | zero=>simpa [X] using e
    | succ j=>simpa [X] using ih.1 j (by omega)
   ·simpa [X] using ih.2 (by simpa using h)
  ·have hc:cnt (c::L) t=0:=by simp [cnt,e]
   rw [hc]
   exact ⟨fun j hj=>by omega,fun _=>by simp [X];omega⟩
end
section
def gapsTo (L:List (Int×Int)) (k:Nat):List Int:=(List.range (k - 1)).map fun i=>X L (i+1) - X L i
def gaps (L:List (Int×Int)):List Int:=if cOk L=true then gapsTo L L.length else []
theorem gapsTo_len (L:List (Int×Int)) (k:Nat):(gapsTo L k).length=k - 1:=by simp [gapsTo]
theorem gapsTo_succ (L:List (Int×Int)) (k:Nat) (h:1<=k):gapsTo L (k+1)=gapsTo L k++[X L k - X L (k - 1)]:=by
 obtain ⟨j,rfl⟩:∃ j,k=j+1:=⟨k - 1,by omega⟩
 simp [gapsTo,List.range_succ]
theorem gaps_yes {L:List (Int×Int)} (h:cOk L=true):gaps L=gapsTo L L.length:=if_pos h
theorem gaps_no {L:List (Int×Int)} (h:cOk L=false):gaps L=[]:=by simp [gaps,h]
end
section
theorem X_ext {L L':List (Int×Int)} (hl:L.length=L'.length) (h:∀ k,k < L.length->X L k=X L' k∧Y L k=Y L' k):L=L':=by
 apply List.ext_getElem hl
 intro k h1 h2
 have:=h k h1
 simp [X,Y,h1,h2] at this
 exact Prod.ext this.1 this.2
theorem XY_eta (L:List (Int×Int)) (k:Nat) (h:k < L.length):L[k]=(X L k,Y L k):=by simp [X,Y,h]
theorem take_succ_XY {L:List (Int×Int)} {k:Nat} (h:k < L.length):L.take (k+1)=L.take k++[(X L k,Y L k)]:=by
 rw [List.take_succ_eq_append_getElem h,XY_eta L k h]
def laterL (L:List (Int×Int)) (t:Int):List (Int×Int):=L.map fun c=>(c.1+t,c.2)
def laterW (L:List (Int×Int)) (t:Int):List (Int×Int):=L.map fun c=>(IntKind.i64.wrap (c.1+t),c.2)
theorem laterL_len (L:List (Int×Int)) (t:Int):(laterL L t).length=L.length:=by simp [laterL]
theorem laterW_len (L:List (Int×Int)) (t:Int):(laterW L t).length=L.length:=by simp [laterW]
theorem laterL_X {L:List (Int×Int)} {t:Int} {k:Nat} (h:k < L.length):X (laterL L t) k=X L k+t:=by simp [X,laterL,h]
theorem laterL_Y {L:List (Int×Int)} {t:Int} {k:Nat} (h:k < L.length):Y (laterL L t) k=Y L k:=by simp [Y,laterL,h]
theorem laterW_X {L:List (Int×Int)} {t:Int} {k:Nat} (h:k < L.length):X (laterW L t) k=IntKind.i64.wrap (X L k+t):=by simp [X,laterW,h]
theorem laterW_Y {L:List (Int×Int)} {t:Int} {k:Nat} (h:k < L.length):Y (laterW L t) k=Y L k:=by simp [Y,laterW,h]
theorem laterW_eq {L:List (Int×Int)} {t:Int} (h:cOk L=true) (ht:0<=t∧t<=60):laterW L t=laterL L t:=by
 refine X_ext (by rw [laterW_len,laterL_len]) fun k hk=>?_
 rw [laterW_len] at hk
 rw [laterW_X hk,laterL_X hk,laterW_Y hk,laterL_Y hk]
 have:=cOk_bd h hk
 exact ⟨IntWalk.i64_in _ (by omega),rfl⟩
def laterTo (L:List (Int×Int)) (t:Int) (k:Nat):List (Int×Int):=(laterL L t).take k
theorem laterTo_len {L:List (Int×Int)} {t:Int} {k:Nat} (h:k<=L.length):(laterTo L t k).length=k:=by rw [laterTo,List.length_take,laterL_len];omega
theorem laterTo_succ {L:List (Int×Int)} {t:Int} {k:Nat} (h:k < L.length):laterTo L t (k+1)=laterTo L t k++[(X L k+t,Y L k)]:=by
 rw [laterTo,take_succ_XY (by rw [laterL_len];exact h),laterL_X h,laterL_Y h];rfl
theorem laterTo_all (L:List (Int×Int)) (t:Int):laterTo L t L.length=laterL L t:=List.take_of_length_le (by rw [laterL_len];omega)
def laterWTo (L:List (Int×Int)) (t:Int) (k:Nat):List (Int×Int):=(laterW L t).take k
theorem laterWTo_len {L:List (Int×Int)} {t:Int} {k:Nat} (h:k<=L.length):(laterWTo L t k).length=k:=by rw [laterWTo,List.length_take,laterW_len];omega
theorem laterWTo_succ {L:List (Int×Int)} {t:Int} {k:Nat} (h:k < L.length):laterWTo L t (k+1)=laterWTo L t k++[(IntKind.i64.wrap (X L k+t),Y L k)]:=by
 rw [laterWTo,take_succ_XY (by rw [laterW_len];exact h),laterW_X h,laterW_Y h];rfl
theorem laterWTo_all (L:List (Int×Int)) (t:Int):laterWTo L t L.length=laterW L t:=List.take_of_length_le (by rw [laterW_len];omega)
def laterOk (L:List (Int×Int)) (t:Int):Bool:=cOk L && decide (0<=t∧t<=60) && cOk (laterL L t)
def laterR (L:List (Int×Int)) (t:Int):List (Int×Int):=if laterOk L t=true then laterL L t else []
theorem laterR_yes {L:List (Int×Int)} {t:Int} (h:laterOk L t=true):laterR L t=laterL L t:=if_pos h
theorem laterR_no {L:List (Int×Int)} {t:Int} (h:laterOk L t=false):laterR L t=[]:=by simp [laterR,h]
def sumB (L:List (Int×Int)):Nat->Int
 | 0=>0
 | j+1=>sumB L j+Y L (L.length - 1 - j)
def bestB (L:List (Int×Int)):Nat->Int
 | 0=>0
 | j+1=>max (bestB L j) (X L (L.length - 1 - j)+sumB L (j+1))
def lastLeave (L:List (Int×Int)):Int:=if cOk L=true then bestB L L.length else -1
theorem lastLeave_yes {L:List (Int×Int)} (h:cOk L=true):lastLeave L=bestB L L.length:=if_pos h
theorem lastLeave_no {L:List (Int×Int)} (h:cOk L=false):lastLeave L=-1:=by simp [lastLeave,h]
theorem sumB_bd {L:List (Int×Int)} (h:cOk L=true):∀ j,j<=L.length->0<=sumB L j∧sumB L j<=9 * j:=by
 intro j
 induction j with
 | zero=>intro _;simp [sumB]
 | succ j ih=>intro hj;have:=ih (by omega);have:=cOk_bd h (k:=L.length - 1 - j) (by omega);simp only [sumB];omega
theorem bestB_bd {L:List (Int×Int)} (h:cOk L=true):∀ j,j<=L.length->0<=bestB L j∧bestB L j<=60+9 * j:=by
 intro j
 induction j with
 | zero=>intro _;simp [bestB]
 | succ j ih =>
  intro hj
  have:=ih (by omega)
  have:=cOk_bd h (k:=L.length - 1 - j) (by omega)
  have h3:=sumB_bd h (j+1) hj
  simp only [bestB]
  omega
end
section
theorem laterOk_parts {L:List (Int×Int)} {t:Int} (h:laterOk L t=true):cOk L=true∧(0<=t∧t<=60)∧cOk (laterL L t)=true:=by
 simp only [laterOk,Bool.and_eq_true,decide_eq_true_eq] at h
 exact ⟨h.1.1,h.1.2,h.2⟩
def fwd (L:List (Int×Int)):Nat->Int
 | 0=>0
 | k+1=>max (fwd L k) (X L k)+Y L k
theorem fwd_nn {L:List (Int×Int)} (h:cOk L=true):∀ k,k<=L.length->sumTo L k<=fwd L k∧0<=fwd L k:=by
 intro k
 induction k with
 | zero=>intro _;simp [fwd,sumTo]
 | succ k ih =>
  intro hk
  have:=ih (by omega)
  have:=cOk_bd h (k:=k) (by omega)
  simp only [fwd,sumTo];omega
theorem fwd_best {L:List (Int×Int)} (h:cOk L=true):∀ j,j<=L.length->0 < L.length->max (fwd L (L.length - j)+sumB L j) (bestB L j)=fwd L L.length:=by
 intro j
 induction j with
 | zero =>
  intro _ _
  have:=(fwd_nn h L.length (Nat.le_refl _)).2
  simp only [sumB,bestB,Nat.sub_zero];omega
 | succ j ih =>
  intro hj h0
  have i:=ih (by omega) h0
  have e:L.length - j=(L.length - (j+1))+1:=by omega
  have e2:L.length - 1 - j=L.length - (j+1):=by omega
  rw [e] at i
  simp only [fwd] at i
  simp only [bestB,sumB,e2]
  omega
theorem lastLeave_fwd {L:List (Int×Int)} (h:cOk L=true):lastLeave L=fwd L L.length:=by
 rw [lastLeave_yes h]
 by_cases h0:0 < L.length
 ·have i:=fwd_best h L.length (Nat.le_refl _) h0
  have e:L.length=(L.length - 1)+1:=by omega
  have b:bestB L L.length ≥ X L 0+sumB L L.length:=by
   rw [e]
   simp only [bestB]
   have e2:L.length - 1 - (L.length - 1)=0:=by omega
   rw [e2,<- e]
   omega
  have:=cOk_bd h h0
  rw [Nat.sub_self] at i
  simp only [fwd] at i
  omega
 ·have e:L.length=0:=by omega
  rw [e];rfl
theorem lastLeave_bd {L:List (Int×Int)} (h:cOk L=true):0<=lastLeave L∧lastLeave L<=132:=by
 have:=bestB_bd h L.length (Nat.le_refl _)
 have:=cOk_len h
 rw [lastLeave_yes h];omega
end
section
def waitAt (L:List (Int×Int)):Nat->Int
 | 0=>0
 | k+1=>max (waitAt L k+Y L k - (X L (k+1) - X L k)) 0
def waitsTo (L:List (Int×Int)) (k:Nat):List Int:=(List.range k).map (waitAt L)
def waits (L:List (Int×Int)):List Int:=if cOk L=true then waitsTo L L.length else []
def leaveAt (L:List (Int×Int)) (k:Nat):Int:=X L k+waitAt L k+Y L k
def leavesTo (L:List (Int×Int)) (k:Nat):List Int:=(List.range k).map (leaveAt L)
def leaves (L:List (Int×Int)):List Int:=if cOk L=true then leavesTo L L.length else []
theorem waitsTo_len (L:List (Int×Int)) (k:Nat):(waitsTo L k).length=k:=by simp [waitsTo]
theorem waitsTo_succ (L:List (Int×Int)) (k:Nat):waitsTo L (k+1)=waitsTo L k++[waitAt L k]:=by simp [waitsTo,List.range_succ]
theorem leavesTo_len (L:List (Int×Int)) (k:Nat):(leavesTo L k).length=k:=by simp [leavesTo]
theorem leavesTo_succ (L:List (Int×Int)) (k:Nat):leavesTo L (k+1)=leavesTo L k++[leaveAt L k]:=by simp [leavesTo,List.range_succ]
theorem waits_yes {L:List (Int×Int)} (h:cOk L=true):waits L=waitsTo L L.length:=if_pos h
theorem waits_no {L:List (Int×Int)} (h:cOk L=false):waits L=[]:=by simp [waits,h]
theorem leaves_yes {L:List (Int×Int)} (h:cOk L=true):leaves L=leavesTo L L.length:=if_pos h
theorem leaves_no {L:List (Int×Int)} (h:cOk L=false):leaves L=[]:=by simp [leaves,h]
theorem waitAt_bd {L:List (Int×Int)} (h:cOk L=true):∀ k,k < L.length->0<=waitAt L k∧waitAt L k<=9 * k∧waitAt L k<=sumTo L k:=by
 intro k
 induction k with
 | zero=>intro _;simp [waitAt,sumTo]
 | succ k ih =>
  intro hk
  have:=ih (by omega)
  have:=cOk_bd h (k:=k) (by omega)
  have:=cOk_mono h (i:=k) (j:=k+1) (by omega) hk
  have:=sumTo_bd h k (by omega)
  simp only [waitAt,sumTo];omega
theorem leaveAt_bd {L:List (Int×Int)} (h:cOk L=true) {k:Nat} (hk:k < L.length):0<=leaveAt L k∧leaveAt L k<=69+9 * k:=by
 have:=waitAt_bd h k hk
 have:=cOk_bd h hk
 simp only [leaveAt];omega
theorem leaveAt_fwd {L:List (Int×Int)} (h:cOk L=true):∀ k,k < L.length->leaveAt L k=fwd L (k+1):=by
 intro k
 induction k with
 | zero =>
  intro hk
  have:=cOk_bd h hk
  simp only [leaveAt,waitAt,fwd];omega
 | succ k ih =>
  intro hk
  have i:=ih (by omega)
  have e:fwd L (k+1+1)=max (fwd L (k+1)) (X L (k+1))+Y L (k+1):=rfl
  rw [e,<- i]
  simp only [leaveAt,waitAt];omega
def pre (L:List (Int×Int)) (k:Nat):Int:=sumTo L k - X L k
def placeOk (L:List (Int×Int)) (a:Int):Bool:=cOk L && decide (0<=a∧a<=(L.length:Int) - 1)
theorem placeOk_parts {L:List (Int×Int)} {a:Int} (h:placeOk L a=true):cOk L=true∧0<=a∧a<=(L.length:Int) - 1:=by
 simp only [placeOk,Bool.and_eq_true,decide_eq_true_eq] at h;exact h
def idleTo (L:List (Int×Int)):Nat->Int
 | 0=>0
 | k+1=>max (idleTo L k) (X L k - sumTo L k)
theorem idleTo_fwd (L:List (Int×Int)):∀ k,idleTo L k=fwd L k - sumTo L k:=by
 intro k
 induction k with
 | zero=>simp [idleTo,fwd,sumTo]
 | succ k ih=>simp only [idleTo,fwd,sumTo,ih];omega
def idleV (L:List (Int×Int)):Int:=if cOk L=true then idleTo L L.length else -1
theorem idleV_yes {L:List (Int×Int)} (h:cOk L=true):idleV L=idleTo L L.length:=if_pos h
theorem idleV_no {L:List (Int×Int)} (h:cOk L=false):idleV L=-1:=by simp [idleV,h]
theorem idle_leave {L:List (Int×Int)} (h:cOk L=true) {n:Nat} (hn:L.length=n+1):leaveAt L n - sumTo L L.length=idleTo L L.length:=by
 rw [idleTo_fwd,leaveAt_fwd h n (by omega),hn]
theorem idleTo_bd {L:List (Int×Int)} (h:cOk L=true):∀ k,k<=L.length->0<=idleTo L k∧idleTo L k<=60:=by
 intro k
 induction k with
 | zero=>intro _;simp [idleTo]
 | succ k ih =>
  intro hk
  have:=ih (by omega)
  have:=cOk_bd h (k:=k) (by omega)
  have:=sumTo_bd h k (by omega)
  simp only [idleTo];omega
def moreL (L:List (Int×Int)) (n:Nat):List (Int×Int):=L.set n (X L n,Y L n+1)
theorem moreL_len (L:List (Int×Int)) (n:Nat):(moreL L n).length=L.length:=by simp [moreL]
def moreOk (L:List (Int×Int)) (a:Int):Bool:=placeOk L a && cOk (moreL L a.toNat)
def moreR (L:List (Int×Int)) (a:Int):List (Int×Int):=if moreOk L a=true then moreL L a.toNat else []
theorem moreR_yes {L:List (Int×Int)} {a:Int} (h:moreOk L a=true):moreR L a=moreL L a.toNat:=if_pos h
theorem moreR_no {L:List (Int×Int)} {a:Int} (h:moreOk L a=false):moreR L a=[]:=by simp [moreR,h]
end
section
def arrTo (L:List (Int×Int)) (t:Int):Nat->Int
 | 0=>0
 | j+1=>arrTo L t j+(if X L j=t then Y L j else 0)
def arr (L:List (Int×Int)) (t:Int):Int:=arrTo L t L.length
def wk (L:List (Int×Int)):Nat->Int
 | 0=>arr L 0
 | t+1=>max (wk L t - 1) 0+arr L ((t:Int)+1)
def srv (L:List (Int×Int)):Nat->Int
 | 0=>0
 | t+1=>srv L t+(if 0 < wk L t then 1 else 0)
theorem lt_cnt {L:List (Int×Int)} (h:cOk L=true) {t:Int} {j:Nat} (hj:j < L.length):j < cnt L t ↔ X L j<=t:=by
 have hc:=cnt_at (t:=t) (L:=L)
 constructor
 ·exact fun hl=>hc.1 j hl
 ·intro hx
  refine Nat.lt_of_not_le fun hge=>?_
  have h1:=hc.2 (by omega)
  have h2:=cOk_mono h (i:=cnt L t) (j:=j) hge hj
  omega
theorem arrTo_cnt {L:List (Int×Int)} (h:cOk L=true) (s:Int):∀ j,j<=L.length->arrTo L s j=sumTo L (min j (cnt L s)) - sumTo L (min j (cnt L (s - 1))):=by
 intro j
 induction j with
 | zero=>intro _;simp [arrTo,sumTo]
 | succ j ih =>
  intro hj
  have i:=ih (by omega)
  have c1:=lt_cnt h (t:=s) (j:=j) (by omega)
  have c2:=lt_cnt h (t:=s - 1) (j:=j) (by omega)
  simp only [arrTo,i]
  by_cases e1:X L j<=s - 1
  ·have a1:j < cnt L (s - 1):=c2.2 e1
   have a2:j < cnt L s:=c1.2 (by omega)
   rw [show min (j+1) (cnt L s)=j+1 by omega,show min (j+1) (cnt L (s - 1))=j+1 by omega,show min j (cnt L s)=j by omega,show min j (cnt L (s - 1))=j by omega,if_neg (by omega)]
   omega
  ·have a1:¬ j < cnt L (s - 1):=fun x=>e1 (c2.1 x)
   by_cases e2:X L j<=s
   ·have a2:j < cnt L s:=c1.2 e2
    rw [show min (j+1) (cnt L s)=j+1 by omega,show min (j+1) (cnt L (s - 1))=cnt L (s - 1) by omega,show min j (cnt L s)=j by omega,show min j (cnt L (s - 1))=cnt L (s - 1) by omega,if_pos (by omega)]
    simp only [sumTo];omega
   ·have a2:¬ j < cnt L s:=fun x=>e2 (c1.1 x)
    rw [show min (j+1) (cnt L s)=cnt L s by omega,show min (j+1) (cnt L (s - 1))=cnt L (s - 1) by omega,show min j (cnt L s)=cnt L s by omega,show min j (cnt L (s - 1))=cnt L (s - 1) by omega,if_neg (by omega)]
    omega
theorem cnt_le' (L:List (Int×Int)) (s:Int):cnt L (s - 1)<=cnt L s:=by
 induction L with
 | nil=>simp [cnt]
 | cons c L ih =>
  by_cases e:c.1<=s - 1
  ·have e2:c.1<=s:=by omega
   have h1:cnt (c::L) (s - 1)=cnt L (s - 1)+1:=by simp [cnt,e]
   have h2:cnt (c::L) s=cnt L s+1:=by simp [cnt,e2]
   omega
  ·have h1:cnt (c::L) (s - 1)=0:=by simp [cnt,e]
   omega
theorem arr_cnt {L:List (Int×Int)} (h:cOk L=true) (s:Int):sumTo L (cnt L s)=sumTo L (cnt L (s - 1))+arr L s:=by
 have:=arrTo_cnt h s L.length (Nat.le_refl _)
 have h1:=cnt_le L s
 have h2:=cnt_le L (s - 1)
 rw [show min L.length (cnt L s)=cnt L s by omega,show min L.length (cnt L (s - 1))=cnt L (s - 1) by omega] at this
 unfold arr;omega
theorem cnt_neg {L:List (Int×Int)} (h:cOk L=true):cnt L (-1)=0:=by
 refine Nat.eq_zero_of_not_pos fun hp=>?_
 have hl:=cnt_le L (-1)
 have:=(lt_cnt h (t:=-1) (j:=0) (by omega)).1 hp
 have:=cOk_bd h (k:=0) (by omega)
 omega
theorem arrTo_nn {L:List (Int×Int)} (h:cOk L=true) (t:Int):∀ j,j<=L.length->0<=arrTo L t j∧arrTo L t j<=9 * j:=by
 intro j
 induction j with
 | zero=>intro _;simp [arrTo]
 | succ j ih =>
  intro hj
  have:=ih (by omega)
  have:=cOk_bd h (k:=j) (by omega)
  simp only [arrTo];split <;> omega
theorem wk_nn {L:List (Int×Int)} (h:cOk L=true):∀ t,0<=wk L t:=by
 intro t
 cases t with
 | zero=>exact (arrTo_nn h 0 _ (Nat.le_refl _)).1
 | succ t =>
  have:=(arrTo_nn h ((t:Int)+1) _ (Nat.le_refl _)).1
  simp only [wk,arr];omega
theorem wk_srv {L:List (Int×Int)} (h:cOk L=true):∀ t:Nat,wk L t+srv L t=sumTo L (cnt L t):=by
 intro t
 induction t with
 | zero =>
  have:=arr_cnt h 0
  rw [show (0:Int) - 1=-1 by omega,cnt_neg h] at this
  rw [show ((0:Nat):Int)=0 by rfl]
  simp only [wk,srv,sumTo] at this ⊢
  omega
 | succ t ih =>
  have a:=arr_cnt h ((t:Int)+1)
  rw [show (t:Int)+1 - 1=t by omega] at a
  have n:=wk_nn h t
  simp only [wk,srv]
  rw [show ((t+1:Nat):Int)=(t:Int)+1 by omega]
  split <;> omega
theorem srv_nn {L:List (Int×Int)}:∀ t:Nat,0<=srv L t∧srv L t<=t:=by
 intro t
 induction t with
 | zero=>simp [srv]
 | succ t ih=>simp only [srv];split <;> omega
theorem sumTo_le {L:List (Int×Int)} (h:cOk L=true) {j:Nat} (hj:j<=L.length):0<=sumTo L j∧sumTo L j<=72:=by
 have:=sumTo_bd h j hj
 have:=cOk_len h
 omega
theorem wk_bd {L:List (Int×Int)} (h:cOk L=true) (t:Nat):0<=wk L t∧wk L t<=72:=by
 have:=wk_srv h t
 have:=srv_nn (L:=L) t
 have:=sumTo_le h (cnt_le L t)
 exact ⟨wk_nn h t,by omega⟩
theorem fwd_step {L:List (Int×Int)} (h:cOk L=true) {j:Nat} (hj:j < L.length):fwd L j<=fwd L (j+1):=by
 have:=cOk_bd h hj
 simp only [fwd];omega
theorem fwd_mono {L:List (Int×Int)} (h:cOk L=true) {i j:Nat} (hij:i<=j) (hj:j<=L.length):fwd L i<=fwd L j:=by
 induction j with
 | zero=>obtain rfl:i=0:=by omega
         exact Int.le_refl _
 | succ j ih =>
  by_cases e:i=j+1
  ·subst e;exact Int.le_refl _
  ·exact Int.le_trans (ih (by omega) (by omega)) (fwd_step h (by omega))
theorem fwd_arr {L:List (Int×Int)} (h:cOk L=true) (s:Int):max (fwd L (cnt L s)) s=max (fwd L (cnt L (s - 1))) s+arr L s:=by
 have hle:=cnt_le' L s
 have hl:=cnt_le L s
 have key:∀ j,cnt L (s - 1)<=j->j<=cnt L s->max (fwd L j) s=max (fwd L (cnt L (s - 1))) s+(sumTo L j - sumTo L (cnt L (s - 1))):=by
  intro j
  induction j with
  | zero=>intro h1 _;rw [show cnt L (s - 1)=0 by omega];simp [sumTo]
  | succ j ih =>
   intro h1 h2
   by_cases e:cnt L (s - 1)=j+1
   ·rw [e];omega
   ·have i:=ih (by omega) (by omega)
    have x1:=(lt_cnt h (t:=s) (j:=j) (by omega)).1 (by omega)
    have x2:¬ X L j<=s - 1:=fun x=>by have:=(lt_cnt h (t:=s - 1) (j:=j) (by omega)).2 x;omega
    have bd:=cOk_bd h (k:=j) (by omega)
    simp only [fwd,sumTo];omega
 have k:=key (cnt L s) hle (Nat.le_refl _)
 have a:=arr_cnt h s
 omega
theorem wk_fwd {L:List (Int×Int)} (h:cOk L=true):∀ t:Nat,wk L t=max (fwd L (cnt L t)) t - t:=by
 intro t
 induction t with
 | zero =>
  have a:=fwd_arr h 0
  rw [show (0:Int) - 1=-1 by omega,cnt_neg h] at a
  simp only [wk,fwd] at a ⊢
  rw [show ((0:Nat):Int)=0 by rfl]
  omega
 | succ t ih =>
  have a:=fwd_arr h ((t:Int)+1)
  rw [show (t:Int)+1 - 1=t by omega] at a
  simp only [wk]
  rw [show ((t+1:Nat):Int)=(t:Int)+1 by omega]
  omega
theorem wk_end {L:List (Int×Int)} (h:cOk L=true) {t:Nat} (ht:lastLeave L<=t):wk L t=0:=by
 rw [lastLeave_fwd h] at ht
 have:=fwd_mono h (cnt_le L t) (Nat.le_refl _)
 rw [wk_fwd h];omega
def momentOk (L:List (Int×Int)) (t:Int):Bool:=cOk L && decide (0<=t∧t<=200)
def workV (L:List (Int×Int)) (t:Int):Int:=if momentOk L t=true then wk L t.toNat else -1
theorem workV_yes {L:List (Int×Int)} {t:Int} (h:momentOk L t=true):workV L t=wk L t.toNat:=if_pos h
theorem workV_no {L:List (Int×Int)} {t:Int} (h:momentOk L t=false):workV L t=-1:=by simp [workV,h]
theorem momentOk_parts {L:List (Int×Int)} {t:Int} (h:momentOk L t=true):cOk L=true∧0<=t∧t<=200:=by
 simp only [momentOk,Bool.and_eq_true,decide_eq_true_eq] at h;exact h
theorem momentOk_nat {L:List (Int×Int)} {t:Int} (h:momentOk L t=true):∃ n:Nat,t=n∧n<=200∧cOk L=true:=by
 obtain ⟨h1,h2,h3⟩:=momentOk_parts h
 exact ⟨t.toNat,by omega,by omega,h1⟩
def workTo (L:List (Int×Int)) (k:Nat):List Int:=(List.range k).map (wk L)
theorem workTo_len (L:List (Int×Int)) (k:Nat):(workTo L k).length=k:=by simp [workTo]
theorem workTo_succ (L:List (Int×Int)) (k:Nat):workTo L (k+1)=workTo L k++[wk L k]:=by simp [workTo,List.range_succ]
def carry (L:List (Int×Int)):Nat->Int
 | 0=>0
 | t+1=>max (wk L t - 1) 0
theorem wk_carry (L:List (Int×Int)) (t:Nat):wk L t=carry L t+arr L t:=by
 cases t with
 | zero=>simp only [wk,carry];rw [show ((0:Nat):Int)=0 by rfl];omega
 | succ t=>simp only [wk,carry];rw [show ((t+1:Nat):Int)=(t:Int)+1 by omega]
end
section
def lastIs (B:List (Int×Int)) (t:Int):Bool:=decide (0 < B.length∧Y B (B.length - 1)=t)
def busyNext (B:List (Int×Int)) (t:Int):List (Int×Int):=if lastIs B t=true then B.set (B.length - 1) (X B (B.length - 1),t+1) else B++[(t,t+1)]
def busyT (L:List (Int×Int)):Nat->List (Int×Int)
 | 0=>[]
 | t+1=>if wk L t=0 then busyT L t else busyNext (busyT L t) t
def busyP (L:List (Int×Int)):List (Int×Int):=if cOk L=true then busyT L 200 else []
theorem busyP_yes {L:List (Int×Int)} (h:cOk L=true):busyP L=busyT L 200:=if_pos h
theorem busyP_no {L:List (Int×Int)} (h:cOk L=false):busyP L=[]:=by simp [busyP,h]
theorem X_set {B:List (Int×Int)} {n k:Nat} {c:Int×Int} (h:n < B.length):X (B.set n c) k=if n=k then c.1 else X B k:=by
 simp only [X,List.getD,List.getElem?_set]
 split
 ·rfl
 ·rfl
theorem Y_set {B:List (Int×Int)} {n k:Nat} {c:Int×Int} (h:n < B.length):Y (B.set n c) k=if n=k then c.2 else Y B k:=by
 simp only [Y,List.getD,List.getElem?_set]
 split
 ·rfl
 ·rfl
theorem X_app {B:List (Int×Int)} {k:Nat} {c:Int×Int}:X (B++[c]) k=if k < B.length then X B k else if k=B.length then c.1 else 0:=by
 simp only [X,List.getD]
 by_cases h:k < B.length
 ·rw [if_pos h,List.getElem?_append_left h]
 ·rw [if_neg h]
  by_cases e:k=B.length
  ·subst e;simp
  ·rw [if_neg e,List.getElem?_eq_none (by simp;omega)];rfl
theorem Y_app {B:List (Int×Int)} {k:Nat} {c:Int×Int}:Y (B++[c]) k=if k < B.length then Y B k else if k=B.length then c.2 else 0:=by
 simp only [Y,List.getD]
 by_cases h:k < B.length
 ·rw [if_pos h,List.getElem?_append_left h]
 ·rw [if_neg h]
  by_cases e:k=B.length
  ·subst e;simp
  ·rw [if_neg e,List.getElem?_eq_none (by simp;omega)];rfl
structure BInv (L:List (Int×Int)) (t:Nat) (B:List (Int×Int)):Prop where
 rng:∀ k,k < B.length->0<=X B k∧X B k < Y B k∧Y B k<=t
 busy:∀ k,k < B.length->∀ u:Nat,X B k<=u->(u:Int) < Y B k->wk L u≠0
 before:∀ k,k < B.length->∀ u:Nat,X B k=(u:Int)+1->wk L u=0
 after:∀ k,k < B.length->∀ u:Nat,Y B k=u->u < t->wk L u=0
 ord:∀ k,k+1 < B.length->Y B k < X B (k+1)
 full:∀ u:Nat,u < t->wk L u≠0->∃ k,k < B.length∧X B k<=u∧(u:Int) < Y B k
theorem BInv.far {L:List (Int×Int)} {t:Nat} {B:List (Int×Int)} (h:BInv L t B) {i j:Nat} (hij:i < j) (hj:j < B.length):Y B i < X B j:=by
 induction j with
 | zero=>omega
 | succ j ih =>
  have o:=h.ord j hj
  by_cases e:i=j
  ·subst e;exact o
  ·have:=ih (by omega) (by omega)
   have:=h.rng j (by omega)
   omega
theorem BInv.next {L:List (Int×Int)} {t:Nat} {B:List (Int×Int)} (h:BInv L t B):BInv L (t+1) (if wk L t=0 then B else busyNext B t):=by
 by_cases hw:wk L t=0
 ·rw [if_pos hw]
  refine ⟨fun k hk=>?_,h.busy,h.before,fun k hk u e hu=>?_,h.ord,fun u hu hne=>?_⟩
  ·have:=h.rng k hk;omega
  ·by_cases e2:u=t
   ·subst e2;exact hw
   ·exact h.after k hk u e (by omega)
  ·by_cases e2:u=t
   ·subst e2;exact absurd hw hne
   ·exact h.full u (by omega) hne
 ·rw [if_neg hw]
  unfold busyNext
  by_cases hl:lastIs B t=true
  ·rw [if_pos hl]
   obtain ⟨hp,he⟩:=of_decide_eq_true hl
   have hm:B.length - 1 < B.length:=by omega
   obtain ⟨m,hmm⟩:∃ m,m=B.length - 1:=⟨_,rfl⟩
   rw [<- hmm] at he hm ⊢
   have rm:=h.rng m hm
   refine ⟨fun k hk=>?_,fun k hk u h1 h2=>?_,fun k hk u h1=>?_,fun k hk u h1 h2=>?_,fun k hk=>?_,fun u hu hne=>?_⟩
   ·rw [List.length_set] at hk
    have:=h.rng k hk
    rw [X_set hm,Y_set hm]
    split
    ·subst_vars;simp only;omega
    ·omega
   ·rw [List.length_set] at hk
    rw [X_set hm] at h1
    rw [Y_set hm] at h2
    split at h1
    ·rename_i e;subst e
     rw [if_pos rfl] at h2
     simp only at h1 h2
     by_cases e2:u=t
     ·subst e2;exact hw
     ·exact h.busy _ hk u h1 (by omega)
    ·rename_i e
     rw [if_neg e] at h2
     exact h.busy k hk u h1 h2
   ·rw [List.length_set] at hk
    rw [X_set hm] at h1
    split at h1
    ·rename_i e;subst e;exact h.before _ hk u h1
    ·exact h.before k hk u h1
   ·rw [List.length_set] at hk
    rw [Y_set hm] at h1
    split at h1
    ·simp only at h1;omega
    ·rename_i e
     have:=h.far (i:=k) (j:=m) (by omega) hm
     exact h.after k hk u h1 (by omega)
   ·rw [List.length_set] at hk
    rw [Y_set hm,X_set hm]
    have o:=h.ord k hk
    rw [if_neg (by omega)]
    split
    ·rename_i e;rw [e];exact o
    ·exact o
   ·by_cases e2:u=t
    ·subst e2
     refine ⟨m,by rw [List.length_set];exact hm,?_,?_⟩
     ·rw [X_set hm,if_pos rfl];simp only;omega
     ·rw [Y_set hm,if_pos rfl];simp only;omega
    ·obtain ⟨k,hk,h1,h2⟩:=h.full u (by omega) hne
     refine ⟨k,by rw [List.length_set];exact hk,?_,?_⟩
     ·rw [X_set hm];split
      ·rename_i e;rw [e];exact h1
      ·exact h1
     ·rw [Y_set hm];split
      ·simp only;omega
      ·exact h2
  ·rw [if_neg hl]
   have hnl:∀ k,k < B.length->Y B k < t:=by
    intro k hk
    have r:=h.rng k hk
    have hne:Y B k≠t:=fun e=>by
     by_cases ek:k=B.length - 1
     ·exact hl (decide_eq_true ⟨by omega,by rw [<- ek];exact e⟩)
     ·have:=h.far (i:=k) (j:=B.length - 1) (by omega) (by omega)
      have:=h.rng (B.length - 1) (by omega)
      omega
    omega
   refine ⟨fun k hk=>?_,fun k hk u h1 h2=>?_,fun k hk u h1=>?_,fun k hk u h1 h2=>?_,fun k hk=>?_,fun u hu hne=>?_⟩
   ·simp only [List.length_append,List.length_singleton] at hk
    rw [X_app,Y_app]
    by_cases e:k < B.length
    ·have:=h.rng k e
     rw [if_pos e,if_pos e];omega
    ·rw [if_neg e,if_neg e,if_pos (by omega),if_pos (by omega)];simp only;omega
   ·simp only [List.length_append,List.length_singleton] at hk
    rw [X_app] at h1
    rw [Y_app] at h2
    by_cases e:k < B.length
    ·rw [if_pos e] at h1 h2
     exact h.busy k e u h1 h2
    ·rw [if_neg e,if_pos (by omega)] at h1 h2
     simp only at h1 h2
     obtain rfl:u=t:=by omega
     exact hw
   ·simp only [List.length_append,List.length_singleton] at hk
    rw [X_app] at h1
    by_cases e:k < B.length
    ·rw [if_pos e] at h1
     exact h.before k e u h1
    ·rw [if_neg e,if_pos (by omega)] at h1
     simp only at h1
     refine Classical.byContradiction fun hne=>?_
     obtain ⟨j,hj,_,h3⟩:=h.full u (by omega) hne
     have:=hnl j hj
     omega
   ·simp only [List.length_append,List.length_singleton] at hk
    rw [Y_app] at h1
    by_cases e:k < B.length
    ·rw [if_pos e] at h1
     have:=hnl k e
     exact h.after k e u h1 (by omega)
    ·rw [if_neg e,if_pos (by omega)] at h1
     simp only at h1;omega
   ·simp only [List.length_append,List.length_singleton] at hk
    rw [X_app,Y_app]
    by_cases e:k+1 < B.length
    ·rw [if_pos e,if_pos (by omega)];exact h.ord k e
    ·rw [if_neg e,if_pos (by omega),if_pos (by omega)]
     exact hnl k (by omega)
   ·by_cases e2:u=t
    ·subst e2
     refine ⟨B.length,by simp,?_,?_⟩
     ·rw [X_app,if_neg (by omega),if_pos rfl];exact Int.le_refl _
     ·rw [Y_app,if_neg (by omega),if_pos rfl];simp only;omega
    ·obtain ⟨k,hk,h1,h2⟩:=h.full u (by omega) hne
     refine ⟨k,by simp;omega,?_,?_⟩
     ·rw [X_app,if_pos hk];exact h1
     ·rw [Y_app,if_pos hk];exact h2
theorem busyT_len (L:List (Int×Int)):∀ t,(busyT L t).length<=t:=by
 intro t
 induction t with
 | zero=>simp [busyT]
 | succ t ih =>
  simp only [busyT,busyNext]
  split
  ·omega
  ·split
   ·rw [List.length_set];omega
   ·simp;omega
end
section
def placesTo (L:List (Int×Int)) (b e:Int):Nat->List Int
 | 0=>[]
 | j+1=>if b<=X L j∧X L j<=e - 1 then placesTo L b e j++[(j:Int)] else placesTo L b e j
def places (L:List (Int×Int)) (b e:Int):List Int:=placesTo L b e L.length
section
variable {L:List (Int×Int)} {t:Nat} {B:List (Int×Int)}
end
end
end Go.Proofs.YthpccmkagikhjaaGreatDoor

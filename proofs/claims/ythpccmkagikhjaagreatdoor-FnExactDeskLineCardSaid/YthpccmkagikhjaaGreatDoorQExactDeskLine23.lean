import Derived.Test.YthpccmkagikhjaaGreatDoorQExactDeskLine2
import Derived.Test.YthpccmkagikhjaaGreatDoorQExactDeskLine4
import Derived.Test.YthpccmkagikhjaaGreatDoorQExactDeskLine16
import Derived.Test.YthpccmkagikhjaaGreatDoorQExactDeskLine21
import Derived.Test.YthpccmkagikhjaaGreatDoorProg
import Derived.MapKept
import Derived.Carry
import Derived.OwnWalk
import Derived.ProofKit
import Derived.OpenShut
import Derived.Deep.SlicePairs
namespace Go.Proofs.YthpccmkagikhjaaGreatDoor
set_option linter.unusedVariables false
open Go.RowKit
set_option maxRecDepth 8000
set_option maxHeartbeats 4000000
section
attribute [local go_sem ↓] Go.wp_at_zero Go.wp_at_succ
def gF (F:List Int) (i:Nat):Int:=F.getD i 9223372036854775807
theorem gF_ins:∀ (T:List Int) (e:Int) (a i:Nat),T.Pairwise (·<=·)->e < 9223372036854775807->(∀ j,j < a->gF T j < e)->¬ gF T a < e->gF (insF e T) i=if i < a then gF T i else if i=a then e else gF T (i - 1):=by
 intro T
 induction T with
 | nil =>
  intro e a i _ he h1 _
  have ha:a=0:=by
   rcases Nat.eq_zero_or_pos a with h | h
   ·exact h
   ·have:=h1 0 h;simp [gF] at this;omega
  subst ha
  cases i with
  | zero=>simp [gF,insF]
  | succ i=>simp [gF,insF]
 | cons f r ih =>
  intro e a i hs he h1 h2
  obtain ⟨s1,s2⟩:=List.pairwise_cons.1 hs
  simp only [insF]
  by_cases hlt:f < e
  ·rw [if_pos (by omega)]
   obtain ⟨a',rfl⟩:∃ a',a=a'+1:=by
    cases a with
    | zero=>exact absurd hlt (by simpa [gF] using h2)
    | succ a=>exact ⟨a,rfl⟩
   cases i with
   | zero=>simp [gF]
   | succ i =>
    have K:=ih e a' i s2 he (fun j hj=>by have:=h1 (j+1) (by omega);simpa [gF] using this) (by simpa [gF] using h2)
    have e1:gF (f::insF e r) (i+1)=gF (insF e r) i:=by simp [gF]
    have e2:gF (f::r) (i+1)=gF r i:=by simp [gF]
    rw [e1,K,e2]
    by_cases c1:i < a'
    ·rw [if_pos c1,if_pos (by omega)]
    ·rw [if_neg c1,if_neg (show ¬ i+1 < a'+1 by omega)]
     by_cases c2:i=a'
     ·rw [if_pos c2,if_pos (by omega)]
     ·rw [if_neg c2,if_neg (by omega)]
      obtain ⟨i',rfl⟩:∃ i',i=i'+1:=⟨i - 1,by omega⟩
      simp [gF]
  ·have ha:a=0:=by
    rcases Nat.eq_zero_or_pos a with h | h
    ·exact h
    ·have:=h1 0 h;simp [gF] at this;omega
   subst ha
   by_cases heq:f=e
   ·subst heq
    rw [if_pos (Int.le_refl _)]
    cases i with
    | zero=>simp [gF]
    | succ i =>
     have K:=ih f 0 i s2 he (fun j hj=>by omega) (by
      cases r with
      | nil=>simp [gF];omega
      | cons x r=>have:=s1 x (by simp);simp [gF];omega)
     have e1:gF (f::insF f r) (i+1)=gF (insF f r) i:=by simp [gF]
     rw [e1,K,if_neg (show ¬ i+1 < 0 by omega),if_neg (show ¬ i+1=0 by omega),if_neg (show ¬ i < 0 by omega)]
     cases i with
     | zero=>simp [gF]
     | succ i=>simp [gF]
   ·rw [if_neg (by omega)]
    cases i with
    | zero=>simp [gF]
    | succ i=>simp [gF]
theorem c_besideOk (L:List (Int×Int)) (A:Option Addr) (d:Nat) (c:Int) (w:World) (hA:Cs w w.heap.size A L) (hn:L.length<=140737488351232) :
  Calls Tryz.prog 208 #[.slice A L.length d,.int .i64 c] w fun e w'=>e=.returned (.bool (besOk L c))∧Below w.heap.size w w':=by
 have HK:=Lib.hid (c_iCustomersOk L A d w hA hn)
 cases hok:cOk L with
 | true =>
  have HV:=Lib.hid (show besOk L c=(decide (1<=c) && decide (c<=4)) by simp [besOk,hok])
  have H:=Lib.hid hok
  clear hok
  go_enter Tryz.func208,Tryz.ntmps208
  go_wp2_with fail
  refine HK.out.mono ?_
  rintro e w1 ⟨rfl,hb1⟩
  rw [H.out]
  go_wp2_with fail
  refine (c_within _ _ _ _).mono ?_
  rintro e w' ⟨rfl,rfl⟩
  go_wp2_with fail
  go_ret
  exact ⟨by rw [HV.out];rfl,hb1⟩
 | false =>
  have HV:=Lib.hid (show besOk L c=false by simp [besOk,hok])
  have H:=Lib.hid hok
  clear hok
  go_enter Tryz.func208,Tryz.ntmps208
  go_wp2_with fail
  refine HK.out.mono ?_
  rintro e w1 ⟨rfl,hb1⟩
  rw [H.out]
  go_wp2_with fail
  go_ret
  exact ⟨by rw [HV.out];rfl,hb1⟩
theorem c_first (a b c d:Int) (w:World) :
  Calls Tryz.prog 245 #[.agg #[.int .i64 a,.int .i64 b,.int .i64 c,.int .i64 d]] w fun e w'=>e=.returned (.int .i64 a)∧Below w.heap.size w w':=by
 go_enter Tryz.func245,Tryz.ntmps245
 go_wp2
 go_ret
 exact ⟨rfl,by (repeat (first | exact rfl | exact Below.refl _ _ | (with_reducible refine Below.drew ?_) | (with_reducible refine Below.drewN ?_ _) | (with_reducible refine Below.alloc ?_ ?_ _) | (with_reducible refine Below.setCell ?_ ?_ _) | (show _<=_;focus (first | omega | (simp;done) | (simp;omega)))))⟩
theorem c_leaveFrom (x y e:Int) (w:World) (h1:-1000<=y∧y<=1000) (h2:-1000<=e∧e<=1000) :
  Calls Tryz.prog 247 #[.agg #[.int .i64 x,.int .i64 y],.int .i64 e] w fun r w'=>r=.returned (.int .i64 (e+y))∧Below w.heap.size w w':=by
 obtain ⟨p1,p2⟩:=h1
 obtain ⟨p3,p4⟩:=h2
 go_enter Tryz.func247,Tryz.ntmps247
 go_wp2
 go_ret
 exact ⟨rfl,by (repeat (first | exact rfl | exact Below.refl _ _ | (with_reducible refine Below.drew ?_) | (with_reducible refine Below.drewN ?_ _) | (with_reducible refine Below.alloc ?_ ?_ _) | (with_reducible refine Below.setCell ?_ ?_ _) | (show _<=_;focus (first | omega | (simp;done) | (simp;omega)))))⟩
theorem heap_set4 {w:World} {B:Nat} {a b c d:Value} {t:TypeId} {fr:Nat×Nat} (h:w.heap[B]?=some (.cells #[a,b,c,d] t fr)) (a' b' c' d':Value):((((w.setCell ⟨B,0,none⟩ a').setCell ⟨B,1,none⟩ b').setCell ⟨B,2,none⟩ c').setCell ⟨B,3,none⟩ d').heap[B]?=some (.cells #[a',b',c',d'] t fr):=by
 simp only [World.setCell]
 rw [Array.getElem?_modify,if_pos rfl,Array.getElem?_modify,if_pos rfl,Array.getElem?_modify,if_pos rfl,Array.getElem?_modify,if_pos rfl,h]
 rfl
def alV (n k i:Nat):Int:=if n<=i∧i < k then 9223372036854775807 else 0
theorem c_allFree (n:Nat) (h1:1<=n) (h4:n<=4) (w:World) :
  Calls Tryz.prog 244 #[.int .i64 (n:Int)] w fun e w'=>e=.returned (.agg #[.int .i64 (gF (List.replicate n 0) 0),.int .i64 (gF (List.replicate n 0) 1),.int .i64 (gF (List.replicate n 0) 2),.int .i64 (gF (List.replicate n 0) 3)])∧Below w.heap.size w w':=by
 have hn0:∀ i,0=alV n n i:=fun i=>by simp only [alV];rw [if_neg (by omega)]
 have HN:=Lib.hid (fun i (hi:i < 4)=>show alV n 4 i=gF (List.replicate n 0) i by
  rcases (show n=1∨n=2∨n=3∨n=4 by omega) with rfl | rfl | rfl | rfl <;> rcases (show i=0∨i=1∨i=2∨i=3 by omega) with rfl | rfl | rfl | rfl <;> rfl)
 obtain ⟨wb,hwb⟩:∃ wb,w.alloc (.cells #[.int .i64 0,.int .i64 0,.int .i64 0,.int .i64 0] 240)=wb:=⟨_,rfl⟩
 have hbb:Below w.heap.size w wb:=by rw [<- hwb];exact (Below.refl _ w).alloc (Nat.le_refl _) _
 have hzb:w.heap.size < wb.heap.size:=by rw [<- hwb];simp
 have hhb:wb.heap[w.heap.size]?=some (.cells #[.int .i64 0,.int .i64 0,.int .i64 0,.int .i64 0] 240 (0,0)):=by rw [<- hwb];exact heap_alloc_new _ _
 have hhc:(wb.alloc (.cells #[.int .i64 0,.int .i64 0,.int .i64 0,.int .i64 0] 240)).heap[wb.heap.size]?=some (.cells #[.int .i64 (alV n n 0),.int .i64 (alV n n 1),.int .i64 (alV n n 2),.int .i64 (alV n n 3)] 240 (0,0)):=by
  rw [<- hn0 0,<- hn0 1,<- hn0 2,<- hn0 3];exact heap_alloc_new _ _
 go_enter Tryz.func244,Tryz.ntmps244
 go_wp2_with fail
 go_loopw [4] (fun i wr=>∃ k:Nat,n<=k∧k<=4∧i=.int .i64 k∧wr.heap[w.heap.size]?=some (.cells #[.int .i64 0,.int .i64 0,.int .i64 0,.int .i64 0] 240 (0,0))∧wr.heap[wb.heap.size]?=some (.cells #[.int .i64 (alV n k 0),.int .i64 (alV n k 1),.int .i64 (alV n k 2),.int .i64 (alV n k 3)] 240 (0,0))∧Below w.heap.size w wr∧wb.heap.size < wr.heap.size) (fun i _=>4 - (intOf i).toNat)
 case atStart=>exact ⟨n,Nat.le_refl _,h4,rfl,(Below.heap_alloc _ _ _ (by omega)).trans hhb,hhc,hbb.alloc (by omega) _,by simp⟩
 case round =>
  obtain ⟨k,hnk,hk,rfl,hr,hf,hb,hz⟩:=hrel
  have cr0:=cell_of_row wr w.heap.size 0 _ _ _ hr
  have cr1:=cell_of_row wr w.heap.size 1 _ _ _ hr
  have cr2:=cell_of_row wr w.heap.size 2 _ _ _ hr
  have cr3:=cell_of_row wr w.heap.size 3 _ _ _ hr
  have cf0:=cell_of_row wr wb.heap.size 0 _ _ _ hf
  have cf1:=cell_of_row wr wb.heap.size 1 _ _ _ hf
  have cf2:=cell_of_row wr wb.heap.size 2 _ _ _ hf
  have cf3:=cell_of_row wr wb.heap.size 3 _ _ _ hf
  have fr:∀ i,wr.frozen? ⟨w.heap.size,i,none⟩=false:=fun i=>by simp only [World.frozen?,hr];rfl
  have ff:∀ i,wr.frozen? ⟨wb.heap.size,i,none⟩=false:=fun i=>by simp only [World.frozen?,hf];rfl
  by_cases hk4:k=4
  ·subst hk4
   have HBx:=Lib.hid hb
   have v0:=HN.out 0 (by omega)
   have v1:=HN.out 1 (by omega)
   have v2:=HN.out 2 (by omega)
   have v3:=HN.out 3 (by omega)
   obtain ⟨w2,hw2⟩:∃ w2,(((wr.setCell ⟨w.heap.size,0,none⟩ (.int .i64 (alV n 4 0))).setCell ⟨w.heap.size,1,none⟩ (.int .i64 (alV n 4 1))).setCell ⟨w.heap.size,2,none⟩ (.int .i64 (alV n 4 2))).setCell ⟨w.heap.size,3,none⟩ (.int .i64 (alV n 4 3))=w2:=⟨_,rfl⟩
   have h2:w2.heap[w.heap.size]?=some (.cells #[.int .i64 (alV n 4 0),.int .i64 (alV n 4 1),.int .i64 (alV n 4 2),.int .i64 (alV n 4 3)] 240 (0,0)):=by rw [<- hw2];exact heap_set4 hr _ _ _ _
   have e0:=cell_of_row w2 w.heap.size 0 _ _ _ h2
   have e1:=cell_of_row w2 w.heap.size 1 _ _ _ h2
   have e2:=cell_of_row w2 w.heap.size 2 _ _ _ h2
   have e3:=cell_of_row w2 w.heap.size 3 _ _ _ h2
   have HBy:=Lib.hid (show Below w.heap.size w w2 by
    rw [<- hw2]
    exact (((hb.setCell (p:=⟨w.heap.size,0,none⟩) (Nat.le_refl _) _).setCell (p:=⟨w.heap.size,1,none⟩) (Nat.le_refl _) _).setCell (p:=⟨w.heap.size,2,none⟩) (Nat.le_refl _) _).setCell (p:=⟨w.heap.size,3,none⟩) (Nat.le_refl _) _)
   have HE:=Lib.hid (show (.agg #[.int .i64 (alV n 4 0),.int .i64 (alV n 4 1),.int .i64 (alV n 4 2),.int .i64 (alV n 4 3)]:Value)=.agg #[.int .i64 (gF (List.replicate n 0) 0),.int .i64 (gF (List.replicate n 0) 1),.int .i64 (gF (List.replicate n 0) 2),.int .i64 (gF (List.replicate n 0) 3)] by rw [v0,v1,v2,v3])
   clear hb v0 v1 v2 v3 h2
   go_wp2_with fail
   refine bodyPost_ret (v:=.agg #[.int .i64 (alV n 4 0),.int .i64 (alV n 4 1),.int .i64 (alV n 4 2),.int .i64 (alV n 4 3)]) (by simp [results,Tryz.results244,go_sem,e0,e1,e2,e3]) rfl ?_
   exact ⟨by rw [HE.out],HBy.out⟩
  ·have f9:=ff k
   have c9:wr.cell? ⟨wb.heap.size,k,none⟩=some (.int .i64 0):=by
    have ez:alV n k k=0:=by simp [alV]
    rcases (show k=0∨k=1∨k=2∨k=3 by omega) with rfl | rfl | rfl | rfl
    ·rw [ez] at cf0;exact cf0
    ·rw [ez] at cf1;exact cf1
    ·rw [ez] at cf2;exact cf2
    ·rw [ez] at cf3;exact cf3
   obtain ⟨w2,hw2⟩:∃ w2,wr.setCell ⟨wb.heap.size,k,none⟩ (.int .i64 9223372036854775807)=w2:=⟨_,rfl⟩
   have hr2:w2.heap[w.heap.size]?=some (.cells #[.int .i64 0,.int .i64 0,.int .i64 0,.int .i64 0] 240 (0,0)):=by rw [<- hw2];exact (Below.heap_setCell _ _ _ _ (fun e=>by simp at e;omega)).trans hr
   have ea:∀ i,alV n (k+1) i=if i=k then 9223372036854775807 else alV n k i:=by
    intro i;simp only [alV]
    by_cases e1:n<=i∧i < k
    ·rw [if_pos ⟨e1.1,by omega⟩,if_neg (by omega),if_pos e1]
    ·rw [if_neg e1]
     by_cases e2:i=k
     ·rw [if_pos e2,if_pos (by omega)]
     ·rw [if_neg e2,if_neg (by omega)]
   have hf2:w2.heap[wb.heap.size]?=some (.cells #[.int .i64 (alV n (k+1) 0),.int .i64 (alV n (k+1) 1),.int .i64 (alV n (k+1) 2),.int .i64 (alV n (k+1) 3)] 240 (0,0)):=by
    rw [<- hw2,ea 0,ea 1,ea 2,ea 3]
    simp only [World.setCell]
    rw [Array.getElem?_modify,if_pos rfl,hf]
    rcases (show k=0∨k=1∨k=2∨k=3 by omega) with rfl | rfl | rfl | rfl <;> rfl
   have hb2:Below w.heap.size w w2:=by rw [<- hw2];exact hb.setCell (p:=⟨wb.heap.size,k,none⟩) (by show w.heap.size<=wb.heap.size;omega) _
   have hz2:wb.heap.size < w2.heap.size:=by rw [<- hw2];simp [World.setCell];omega
   have HR:=Lib.hid (And.intro hr2 (And.intro hf2 (And.intro hb2 hz2)))
   have hk':k < 4:=by omega
   have z1:(0:Int)<=(k:Int):=by omega
   have z2:(k:Int) < 4:=by omega
   clear hr2 hf2 hb2 hz2 ea
   go_wp2_with fail
   go_roundw
   case rel=>exact ⟨k+1,by omega,by omega,by go_num,HR.out.1,HR.out.2.1,HR.out.2.2.1,HR.out.2.2.2⟩
   case measure=>simp [intOf];omega
def shV (f:Nat->Int) (k i:Nat):Int:=if i < k then f (i+1) else f i
def tkV (f:Nat->Int) (e:Int) (a i:Nat):Int:=if i < a then f (i+1) else if i=a then e else f i
theorem c_taken (f:Nat->Int) (e:Int) (w:World) :
  Calls Tryz.prog 246 #[.agg #[.int .i64 (f 0),.int .i64 (f 1),.int .i64 (f 2),.int .i64 (f 3)],.int .i64 e] w fun r w'=>(∃ a,a<=3∧(∀ j,j < a->f (j+1) < e)∧(a=3∨¬ f (a+1) < e)∧r=.returned (.agg #[.int .i64 (tkV f e a 0),.int .i64 (tkV f e a 1),.int .i64 (tkV f e a 2),.int .i64 (tkV f e a 3)]))∧Below w.heap.size w w':=by
 have hn0:∀ i,f i=shV f 0 i:=fun i=>by simp [shV]
 obtain ⟨wa,hwa⟩:∃ wa,w.alloc (.cells #[.int .i64 (f 0),.int .i64 (f 1),.int .i64 (f 2),.int .i64 (f 3)] 240)=wa:=⟨_,rfl⟩
 have hba:Below w.heap.size w wa:=by rw [<- hwa];exact (Below.refl _ w).alloc (Nat.le_refl _) _
 have hza:w.heap.size < wa.heap.size:=by rw [<- hwa];simp
 have hha:wa.heap[w.heap.size]?=some (.cells #[.int .i64 (shV f 0 0),.int .i64 (shV f 0 1),.int .i64 (shV f 0 2),.int .i64 (shV f 0 3)] 240 (0,0)):=by rw [<- hwa,<- hn0 0,<- hn0 1,<- hn0 2,<- hn0 3];exact heap_alloc_new _ _
 clear hn0
 have hhb:(wa.alloc (.cells #[.int .i64 0,.int .i64 0,.int .i64 0,.int .i64 0] 240)).heap[wa.heap.size]?=some (.cells #[.int .i64 0,.int .i64 0,.int .i64 0,.int .i64 0] 240 (0,0)):=heap_alloc_new _ _
 go_enter Tryz.func246,Tryz.ntmps246
 go_wp2_with fail
 go_loopw [5] (fun i wr=>∃ k:Nat,k<=3∧i=.int .i64 k∧Hid (∀ j,j < k->f (j+1) < e)∧wr.heap[w.heap.size]?=some (.cells #[.int .i64 (shV f k 0),.int .i64 (shV f k 1),.int .i64 (shV f k 2),.int .i64 (shV f k 3)] 240 (0,0))∧wr.heap[wa.heap.size]?=some (.cells #[.int .i64 0,.int .i64 0,.int .i64 0,.int .i64 0] 240 (0,0))∧Below w.heap.size w wr) (fun i _=>3 - (intOf i).toNat)
 case atStart=>exact ⟨0,by omega,rfl,Lib.hid (fun j hj=>by omega),(Below.heap_alloc _ _ _ (by omega)).trans hha,hhb,hba.alloc (by omega) _⟩
 case round =>
  obtain ⟨k,hk,rfl,hlt,hf,hr,hb⟩:=hrel
  have cf0:=cell_of_row wr w.heap.size 0 _ _ _ hf
  have cf1:=cell_of_row wr w.heap.size 1 _ _ _ hf
  have cf2:=cell_of_row wr w.heap.size 2 _ _ _ hf
  have cf3:=cell_of_row wr w.heap.size 3 _ _ _ hf
  have ff:∀ i,wr.frozen? ⟨w.heap.size,i,none⟩=false:=fun i=>by simp only [World.frozen?,hf];rfl
  by_cases hm:k < 3∧f (k+1) < e
  ·have g:∀ m,m=k+1->shV f k m < e:=by rintro m rfl;simp only [shV];rw [if_neg (by omega)];exact hm.2
   have ev:∀ m,m=k+1->f (k+1)=shV f k m:=by rintro m rfl;simp only [shV];rw [if_neg (by omega)]
   have ea:∀ i,shV f (k+1) i=if i=k then f (k+1) else shV f k i:=by
    intro i;simp only [shV]
    by_cases e1:i < k
    ·rw [if_pos (by omega),if_neg (by omega),if_pos e1]
    ·rw [if_neg e1]
     by_cases e2:i=k
     ·rw [if_pos e2,if_pos (by omega),e2]
     ·rw [if_neg e2,if_neg (by omega)]
   have HR:=Lib.hid (show (Hid (∀ j,j < k+1->f (j+1) < e))∧(wr.setCell ⟨w.heap.size,k,none⟩ (.int .i64 (f (k+1)))).heap[w.heap.size]?=some (.cells #[.int .i64 (shV f (k+1) 0),.int .i64 (shV f (k+1) 1),.int .i64 (shV f (k+1) 2),.int .i64 (shV f (k+1) 3)] 240 (0,0))∧(wr.setCell ⟨w.heap.size,k,none⟩ (.int .i64 (f (k+1)))).heap[wa.heap.size]?=some (.cells #[.int .i64 0,.int .i64 0,.int .i64 0,.int .i64 0] 240 (0,0))∧Below w.heap.size w (wr.setCell ⟨w.heap.size,k,none⟩ (.int .i64 (f (k+1)))) from by
    refine ⟨Lib.hid (fun j hj=>?_),?_,(Below.heap_setCell _ _ _ _ (fun e=>by simp at e;omega)).trans hr,hb.setCell (p:=⟨w.heap.size,k,none⟩) (Nat.le_refl _) _⟩
    ·by_cases e1:j=k
     ·rw [e1];exact hm.2
     ·exact hlt.out j (by omega)
    ·rw [ea 0,ea 1,ea 2,ea 3]
     simp only [World.setCell]
     rw [Array.getElem?_modify,if_pos rfl,hf]
     rcases (show k=0∨k=1∨k=2∨k=3 by omega) with rfl | rfl | rfl | rfl <;> rfl)
   clear hlt hb hr ea
   rcases (show k=0∨k=1∨k=2 by omega) with rfl | rfl | rfl
   ·have g':=g 1 rfl
    have c9:=cf0
    have c8:=cf1
    have f9:=ff 0
    clear hf
    rw [ev 1 rfl] at HR
    obtain ⟨w2,hw2⟩:∃ w2,wr.setCell ⟨w.heap.size,0,none⟩ (.int .i64 (shV f 0 1))=w2:=⟨_,rfl⟩
    rw [hw2] at HR
    clear ev g hm
    go_wp2_with fail
    go_roundw
    case rel=>exact ⟨1,by omega,by go_num,HR.out.1,HR.out.2.1,HR.out.2.2.1,HR.out.2.2.2⟩
    case measure=>simp [intOf]
   ·have g':=g 2 rfl
    have c9:=cf1
    have c8:=cf2
    have f9:=ff 1
    clear hf
    rw [ev 2 rfl] at HR
    obtain ⟨w2,hw2⟩:∃ w2,wr.setCell ⟨w.heap.size,1,none⟩ (.int .i64 (shV f 1 2))=w2:=⟨_,rfl⟩
    rw [hw2] at HR
    clear ev g hm
    go_wp2_with fail
    go_roundw
    case rel=>exact ⟨2,by omega,by go_num,HR.out.1,HR.out.2.1,HR.out.2.2.1,HR.out.2.2.2⟩
    case measure=>simp [intOf]
   ·have g':=g 3 rfl
    have c9:=cf2
    have c8:=cf3
    have f9:=ff 2
    clear hf
    rw [ev 3 rfl] at HR
    obtain ⟨w2,hw2⟩:∃ w2,wr.setCell ⟨w.heap.size,2,none⟩ (.int .i64 (shV f 2 3))=w2:=⟨_,rfl⟩
    rw [hw2] at HR
    clear ev g hm
    go_wp2_with fail
    go_roundw
    case rel=>exact ⟨3,by omega,by go_num,HR.out.1,HR.out.2.1,HR.out.2.2.1,HR.out.2.2.2⟩
    case measure=>simp [intOf]
  ·have g:∀ m,m=k+1->k < 3->e<=shV f k m:=by rintro m rfl h3;simp only [shV];rw [if_neg (by omega)];omega
   have ea:∀ i,tkV f e k i=if i=k then e else shV f k i:=by
    intro i;simp only [tkV,shV]
    by_cases e1:i < k
    ·rw [if_pos e1,if_neg (by omega),if_pos e1]
    ·rw [if_neg e1,if_neg e1]
   obtain ⟨w2,hw2⟩:∃ w2,wr.setCell ⟨w.heap.size,k,none⟩ (.int .i64 e)=w2:=⟨_,rfl⟩
   have h2:w2.heap[w.heap.size]?=some (.cells #[.int .i64 (tkV f e k 0),.int .i64 (tkV f e k 1),.int .i64 (tkV f e k 2),.int .i64 (tkV f e k 3)] 240 (0,0)):=by
    rw [<- hw2,ea 0,ea 1,ea 2,ea 3]
    simp only [World.setCell]
    rw [Array.getElem?_modify,if_pos rfl,hf]
    rcases (show k=0∨k=1∨k=2∨k=3 by omega) with rfl | rfl | rfl | rfl <;> rfl
   have hr2:w2.heap[wa.heap.size]?=some (.cells #[.int .i64 0,.int .i64 0,.int .i64 0,.int .i64 0] 240 (0,0)):=by rw [<- hw2];exact (Below.heap_setCell _ _ _ _ (fun e=>by simp at e;omega)).trans hr
   have a0:=cell_of_row w2 w.heap.size 0 _ _ _ h2
   have a1:=cell_of_row w2 w.heap.size 1 _ _ _ h2
   have a2:=cell_of_row w2 w.heap.size 2 _ _ _ h2
   have a3:=cell_of_row w2 w.heap.size 3 _ _ _ h2
   have b0:=cell_of_row w2 wa.heap.size 0 _ _ _ hr2
   have b1:=cell_of_row w2 wa.heap.size 1 _ _ _ hr2
   have b2:=cell_of_row w2 wa.heap.size 2 _ _ _ hr2
   have b3:=cell_of_row w2 wa.heap.size 3 _ _ _ hr2
   have fb:∀ i,w2.frozen? ⟨wa.heap.size,i,none⟩=false:=fun i=>by simp only [World.frozen?,hr2];rfl
   obtain ⟨w3,hw3⟩:∃ w3,(((w2.setCell ⟨wa.heap.size,0,none⟩ (.int .i64 (tkV f e k 0))).setCell ⟨wa.heap.size,1,none⟩ (.int .i64 (tkV f e k 1))).setCell ⟨wa.heap.size,2,none⟩ (.int .i64 (tkV f e k 2))).setCell ⟨wa.heap.size,3,none⟩ (.int .i64 (tkV f e k 3))=w3:=⟨_,rfl⟩
   have h3:w3.heap[wa.heap.size]?=some (.cells #[.int .i64 (tkV f e k 0),.int .i64 (tkV f e k 1),.int .i64 (tkV f e k 2),.int .i64 (tkV f e k 3)] 240 (0,0)):=by rw [<- hw3];exact heap_set4 hr2 _ _ _ _
   have e0:=cell_of_row w3 wa.heap.size 0 _ _ _ h3
   have e1:=cell_of_row w3 wa.heap.size 1 _ _ _ h3
   have e2:=cell_of_row w3 wa.heap.size 2 _ _ _ h3
   have e3:=cell_of_row w3 wa.heap.size 3 _ _ _ h3
   have HR:=Lib.hid (show (∀ j,j < k->f (j+1) < e)∧(k=3∨¬ f (k+1) < e)∧Below w.heap.size w w3 from ⟨hlt.out,by omega,by
    rw [<- hw3,<- hw2]
    exact ((((hb.setCell (p:=⟨w.heap.size,k,none⟩) (Nat.le_refl _) _).setCell (p:=⟨wa.heap.size,0,none⟩) (Nat.le_of_lt hza) _).setCell (p:=⟨wa.heap.size,1,none⟩) (Nat.le_of_lt hza) _).setCell (p:=⟨wa.heap.size,2,none⟩) (Nat.le_of_lt hza) _).setCell (p:=⟨wa.heap.size,3,none⟩) (Nat.le_of_lt hza) _⟩)
   clear hlt hb ea h2 h3 hr2
   rcases (show k=0∨k=1∨k=2∨k=3 by omega) with rfl | rfl | rfl | rfl
   ·have f9:=ff 0
    have g':=g 1 rfl (by omega)
    have g2:¬ shV f 0 1 < e:=by omega
    have c8:=cf1
    have c9:=cf0
    clear hf hr cf0 cf1 cf2 cf3
    go_wp2_with fail
    refine bodyPost_ret (v:=.agg #[.int .i64 (tkV f e 0 0),.int .i64 (tkV f e 0 1),.int .i64 (tkV f e 0 2),.int .i64 (tkV f e 0 3)]) (by simp [results,Tryz.results246,go_sem,e0,e1,e2,e3]) rfl ?_
    exact ⟨⟨0,by omega,HR.out.1,HR.out.2.1,rfl⟩,HR.out.2.2⟩
   ·have f9:=ff 1
    have g':=g 2 rfl (by omega)
    have g2:¬ shV f 1 2 < e:=by omega
    have c8:=cf2
    have c9:=cf1
    clear hf hr cf0 cf1 cf2 cf3
    go_wp2_with fail
    refine bodyPost_ret (v:=.agg #[.int .i64 (tkV f e 1 0),.int .i64 (tkV f e 1 1),.int .i64 (tkV f e 1 2),.int .i64 (tkV f e 1 3)]) (by simp [results,Tryz.results246,go_sem,e0,e1,e2,e3]) rfl ?_
    exact ⟨⟨1,by omega,HR.out.1,HR.out.2.1,rfl⟩,HR.out.2.2⟩
   ·have f9:=ff 2
    have g':=g 3 rfl (by omega)
    have g2:¬ shV f 2 3 < e:=by omega
    have c8:=cf3
    have c9:=cf2
    clear hf hr cf0 cf1 cf2 cf3
    go_wp2_with fail
    refine bodyPost_ret (v:=.agg #[.int .i64 (tkV f e 2 0),.int .i64 (tkV f e 2 1),.int .i64 (tkV f e 2 2),.int .i64 (tkV f e 2 3)]) (by simp [results,Tryz.results246,go_sem,e0,e1,e2,e3]) rfl ?_
    exact ⟨⟨2,by omega,HR.out.1,HR.out.2.1,rfl⟩,HR.out.2.2⟩
   ·have f9:=ff 3
    have c9:=cf3
    clear hf hr cf0 cf1 cf2 cf3
    go_wp2_with fail
    refine bodyPost_ret (v:=.agg #[.int .i64 (tkV f e 3 0),.int .i64 (tkV f e 3 1),.int .i64 (tkV f e 3 2),.int .i64 (tkV f e 3 3)]) (by simp [results,Tryz.results246,go_sem,e0,e1,e2,e3]) rfl ?_
    exact ⟨⟨3,by omega,HR.out.1,Or.inl rfl,rfl⟩,HR.out.2.2⟩
theorem c_takenF (F:List Int) (e:Int) (w:World) (hs:F.Pairwise (·<=·)) (h1:1<=F.length) (h4:F.length<=4) (he:e < 9223372036854775807) :
  Calls Tryz.prog 246 #[.agg #[.int .i64 (gF F 0),.int .i64 (gF F 1),.int .i64 (gF F 2),.int .i64 (gF F 3)],.int .i64 e] w fun r w'=>r=.returned (.agg #[.int .i64 (gF (insF e F.tail) 0),.int .i64 (gF (insF e F.tail) 1),.int .i64 (gF (insF e F.tail) 2),.int .i64 (gF (insF e F.tail) 3)])∧Below w.heap.size w w':=by
 refine (c_taken (gF F) e w).mono ?_
 rintro r w' ⟨⟨a,ha,h2,h3,rfl⟩,hb⟩
 refine ⟨?_,hb⟩
 cases F with
 | nil=>simp at h1
 | cons f T =>
  have hT:T.length<=3:=by simpa using h4
  have es:∀ i,gF (f::T) (i+1)=gF T i:=fun i=>by simp [gF]
  have key:∀ i,tkV (gF (f::T)) e a i=gF (insF e T) i:=by
   intro i
   rw [gF_ins T e a i (List.pairwise_cons.1 hs).2 he (fun j hj=>by rw [<- es];exact h2 j hj) (by
    rcases h3 with h3 | h3
    ·subst h3;have:gF T 3=9223372036854775807:=by simp [gF,List.getElem?_eq_none hT]
     rw [this];omega
    ·rw [<- es];exact h3)]
   simp only [tkV,es]
   by_cases c1:i < a
   ·rw [if_pos c1,if_pos c1]
   ·rw [if_neg c1,if_neg c1]
    by_cases c2:i=a
    ·rw [if_pos c2,if_pos c2]
    ·rw [if_neg c2,if_neg c2]
     obtain ⟨i',rfl⟩:∃ i',i=i'+1:=⟨i - 1,by omega⟩
     rw [es];rfl
  rw [List.tail_cons,key 0,key 1,key 2,key 3]
theorem c_iBeginsOf (L:List (Int×Int)) (A:Option Addr) (d:Nat) (c:Int) (w:World) (hA:Cs w w.heap.size A L) (hcap:L.length<=d) (hn:L.length<=140737488351232) :
  Calls Tryz.prog 210 #[.slice A L.length d,.int .i64 c] w fun e w'=>∃ v,e=.returned v∧IO w' w.heap.size v (beginsV L c)∧Below w.heap.size w w':=by
 have HK:=Lib.hid (c_besideOk L A d c w hA hn)
 cases hok:besOk L c with
 | true =>
  obtain ⟨hc,hr⟩:=besOk_parts hok
  obtain ⟨cn,rfl,h1,h4,hcn⟩:=counter_nat hr
  have hlen:=cOk_len hc
  have HV:=Lib.hid (show beginsV L (cn:Int)=beginsTo L cn L.length by rw [beginsV_yes hok,hcn])
  have Hb:=Lib.hid (fun k (hk:k < L.length)=>bgn_bd hc h1 hk)
  have Hc:=Lib.hid (fun k (hk:k < L.length)=>cOk_bd hc hk)
  have HM:=Lib.hid (fun k (hk:k < L.length)=>show max (gF (freeK L cn k) 0) (X L k)=bgn L cn k by
   have hne:=freeK_ne L h1 k
   cases hF:freeK L cn k with
   | nil=>exact absurd hF hne
   | cons f r=>simp [bgn,bgnOf,hF,gF])
  have HT:=Lib.hid (fun k (hk:k < L.length) (W:World)=>show Calls Tryz.prog 246 #[.agg #[.int .i64 (gF (freeK L cn k) 0),.int .i64 (gF (freeK L cn k) 1),.int .i64 (gF (freeK L cn k) 2),.int .i64 (gF (freeK L cn k) 3)],.int .i64 (bgn L cn k+Y L k)] W fun r w'=>r=.returned (.agg #[.int .i64 (gF (freeK L cn (k+1)) 0),.int .i64 (gF (freeK L cn (k+1)) 1),.int .i64 (gF (freeK L cn (k+1)) 2),.int .i64 (gF (freeK L cn (k+1)) 3)])∧Below W.heap.size W w' from by
   have b1:=bgn_bd hc h1 hk
   have b2:=cOk_bd hc hk
   have K:=c_takenF (freeK L cn k) (bgn L cn k+Y L k) W (freeK_sorted L cn k) (by rw [freeK_len L h1];exact h1) (by rw [freeK_len L h1];exact h4) (by omega)
   rw [<- freeK_succ] at K
   exact K)
  have HL:=Lib.hid (fun k (hk:k < L.length) (W:World)=>c_leaveFrom (X L k) (Y L k) (bgn L cn k) W (by have:=cOk_bd hc hk;omega) (by have:=bgn_bd hc h1 hk;omega))
  have HA:=Lib.hid (fun W=>show Calls Tryz.prog 244 #[.int .i64 (cn:Int)] W fun e w'=>e=.returned (.agg #[.int .i64 (gF (freeK L cn 0) 0),.int .i64 (gF (freeK L cn 0) 1),.int .i64 (gF (freeK L cn 0) 2),.int .i64 (gF (freeK L cn 0) 3)])∧Below W.heap.size W w' from c_allFree cn h1 h4 W)
  have H:=Lib.hid hok
  clear hok hc hr hcn
  go_enter Tryz.func210,Tryz.ntmps210
  go_wp2_with fail
  refine HK.out.mono ?_
  rintro e w1 ⟨rfl,hb1⟩
  rw [H.out]
  go_wp2_with fail
  refine (HA.out _).mono ?_
  rintro e w2 ⟨rfl,hb2⟩
  have hx2:=hb1.trans (hb2.mono hb1.size)
  obtain ⟨w3,hw3⟩:∃ w3,w2.alloc (.cells #[.int .i64 (gF (freeK L cn 0) 0),.int .i64 (gF (freeK L cn 0) 1),.int .i64 (gF (freeK L cn 0) 2),.int .i64 (gF (freeK L cn 0) 3)] 240)=w3:=⟨_,rfl⟩
  have hf3:w3.heap[w2.heap.size]?=some (.cells #[.int .i64 (gF (freeK L cn 0) 0),.int .i64 (gF (freeK L cn 0) 1),.int .i64 (gF (freeK L cn 0) 2),.int .i64 (gF (freeK L cn 0) 3)] 240 (0,0)):=by rw [<- hw3];exact heap_alloc_new _ _
  have hx3:Below w.heap.size w w3:=by rw [<- hw3];exact hx2.alloc hx2.size _
  have hz3:w2.heap.size < w3.heap.size:=by rw [<- hw3];simp
  have hs2:=hx2.size
  go_wp2_with fail
  go_loopw [5,18] (fun o i wr=>∃ k:Nat,k<=L.length∧i=.int .i64 k∧IO wr w3.heap.size o (beginsTo L cn k)∧wr.heap[w2.heap.size]?=some (.cells #[.int .i64 (gF (freeK L cn k) 0),.int .i64 (gF (freeK L cn k) 1),.int .i64 (gF (freeK L cn k) 2),.int .i64 (gF (freeK L cn k) 3)] 240 (0,0))∧Below w.heap.size w wr∧w3.heap.size<=wr.heap.size)
   (fun _ i _=>L.length - (intOf i).toNat)
  case atStart=>exact ⟨0,by omega,rfl,IO.nil _ _,hf3,hx3,Nat.le_refl _⟩
  case round =>
   obtain ⟨k,hk,rfl,hown,hf,hb,hz⟩:=hrel
   by_cases hlt:k < L.length
   ·obtain ⟨b,off,rfl,hlb,hc⟩:=hA (by omega)
    have c1:=(hb.cell (p:=⟨b,off+k * 2,none⟩) hlb).trans (hc k hlt).1
    have c2:=(hb.cell (p:=⟨b,off+k * 2+1,none⟩) hlb).trans (hc k hlt).2
    clear hc
    obtain ⟨w4,hw4⟩:∃ w4,wr.alloc (.cells #[.int .i64 (X L k),.int .i64 (Y L k)] 100)=w4:=⟨_,rfl⟩
    have hn4:w4.heap[wr.heap.size]?=some (.cells #[.int .i64 (X L k),.int .i64 (Y L k)] 100 (0,0)):=by rw [<- hw4];exact heap_alloc_new _ _
    have hf4:w4.heap[w2.heap.size]?=some (.cells #[.int .i64 (gF (freeK L cn k) 0),.int .i64 (gF (freeK L cn k) 1),.int .i64 (gF (freeK L cn k) 2),.int .i64 (gF (freeK L cn k) 3)] 240 (0,0)):=by rw [<- hw4];exact (Below.heap_alloc _ _ _ (by omega)).trans hf
    have hx4:Below w.heap.size w w4:=by rw [<- hw4];exact hb.alloc (by omega) _
    have own4:IO w4 w3.heap.size u5 (beginsTo L cn k):=by rw [<- hw4];exact hown.alloc _
    have hz4:wr.heap.size < w4.heap.size:=by rw [<- hw4];simp
    have g0:=WB.cell (w:=w4) (B:=w4.heap.size) (show w2.heap.size < w4.heap.size by omega) (cell_of_row w4 w2.heap.size 0 _ _ _ hf4)
    have g1:=WB.cell (w:=w4) (B:=w4.heap.size) (show w2.heap.size < w4.heap.size by omega) (cell_of_row w4 w2.heap.size 1 _ _ _ hf4)
    have g2:=WB.cell (w:=w4) (B:=w4.heap.size) (show w2.heap.size < w4.heap.size by omega) (cell_of_row w4 w2.heap.size 2 _ _ _ hf4)
    have g3:=WB.cell (w:=w4) (B:=w4.heap.size) (show w2.heap.size < w4.heap.size by omega) (cell_of_row w4 w2.heap.size 3 _ _ _ hf4)
    have g4:=WB.cell (w:=w4) (B:=w4.heap.size) (show wr.heap.size < w4.heap.size by omega) (cell_of_row w4 wr.heap.size 0 _ _ _ hn4)
    have g5:=WB.cell (w:=w4) (B:=w4.heap.size) (show wr.heap.size < w4.heap.size by omega) (cell_of_row w4 wr.heap.size 1 _ _ _ hn4)
    have hM:=HM.out k hlt
    have hcase:(gF (freeK L cn k) 0 < X L k∧bgn L cn k=X L k)∨(¬ gF (freeK L cn k) 0 < X L k∧bgn L cn k=gF (freeK L cn k) 0):=by omega
    clear hM hown hf
    rcases hcase with ⟨hmx,eB⟩ | ⟨hmx,eB⟩
    ·skip
     have HLk:=Lib.hid (fun W=>by have K:=HL.out k hlt W;rw [eB] at K;exact K)
     have HTk:=Lib.hid (fun W=>by have K:=HT.out k hlt W;rw [eB] at K;exact K)
     have HS:=Lib.hid (show beginsTo L cn (k+1)=beginsTo L cn k++[X L k] by rw [beginsTo_succ,eB])
     clear eB HM HL HT
     go_wp2_with fail
     refine wp_region_wb w4.heap.size (by kernel_rfl) (by kernel_rfl) ?_
     repeat (go_big_quiet_step ((go_at_call 245;exact Calls.inB (Nat.le_refl _) (c_first _ _ _ _ _))))
     refine wpQuiet_nil ?_
     rintro w5 ⟨⟨_,hb5⟩,rfl⟩
     have hz5:=hb5.size
     have hf5:=(hb5.block w2.heap.size (by omega)).trans hf4
     have hn5:=(hb5.block wr.heap.size (by omega)).trans hn4
     have own5:IO w5 w3.heap.size u5 (beginsTo L cn k):=own4.below hb5 (Nat.le_refl _)
     have hx5:Below w.heap.size w w5:=hx4.trans (hb5.mono (by omega))
     have g0:=WB.cell (w:=w5) (B:=w5.heap.size) (show w2.heap.size < w5.heap.size by omega) (cell_of_row w5 w2.heap.size 0 _ _ _ hf5)
     have g1:=WB.cell (w:=w5) (B:=w5.heap.size) (show w2.heap.size < w5.heap.size by omega) (cell_of_row w5 w2.heap.size 1 _ _ _ hf5)
     have g2:=WB.cell (w:=w5) (B:=w5.heap.size) (show w2.heap.size < w5.heap.size by omega) (cell_of_row w5 w2.heap.size 2 _ _ _ hf5)
     have g3:=WB.cell (w:=w5) (B:=w5.heap.size) (show w2.heap.size < w5.heap.size by omega) (cell_of_row w5 w2.heap.size 3 _ _ _ hf5)
     have g4:=WB.cell (w:=w5) (B:=w5.heap.size) (show wr.heap.size < w5.heap.size by omega) (cell_of_row w5 wr.heap.size 0 _ _ _ hn5)
     have g5:=WB.cell (w:=w5) (B:=w5.heap.size) (show wr.heap.size < w5.heap.size by omega) (cell_of_row w5 wr.heap.size 1 _ _ _ hn5)
     clear hf4 hn4 own4 hx4 hb5
     go_wp2_with fail
     refine wp_region_wb_tail w5.heap.size 5 (by kernel_rfl) (by kernel_rfl) ?_
     simp only [List.take_succ_cons,List.take_zero,List.drop_succ_cons,List.drop_zero]
     repeat (go_big_quiet_step (first | (go_at_call 247;exact Calls.inB (Nat.le_refl _) (HLk.out _)) | (go_at_call 246;exact Calls.inB (Nat.le_refl _) (HTk.out _))))
     refine wpQuiet_nil ?_
     rintro w6 ⟨⟨_,hb6⟩,rfl⟩
     have hz6:=hb6.size
     have hf6:=(hb6.block w2.heap.size (by omega)).trans hf5
     have own6:IO w6 w3.heap.size u5 (beginsTo L cn k):=own5.below hb6 (Nat.le_refl _)
     have hx6:Below w.heap.size w w6:=hx5.trans (hb6.mono (by omega))
     have d0:=cell_of_row w6 w2.heap.size 0 _ _ _ hf6
     have d1:=cell_of_row w6 w2.heap.size 1 _ _ _ hf6
     have d2:=cell_of_row w6 w2.heap.size 2 _ _ _ hf6
     have d3:=cell_of_row w6 w2.heap.size 3 _ _ _ hf6
     have ff:∀ i,w6.frozen? ⟨w2.heap.size,i,none⟩=false:=fun i=>by simp only [World.frozen?,hf6];rfl
     obtain ⟨w7,hw7⟩:∃ w7,(((w6.setCell ⟨w2.heap.size,0,none⟩ (.int .i64 (gF (freeK L cn (k+1)) 0))).setCell ⟨w2.heap.size,1,none⟩ (.int .i64 (gF (freeK L cn (k+1)) 1))).setCell ⟨w2.heap.size,2,none⟩ (.int .i64 (gF (freeK L cn (k+1)) 2))).setCell ⟨w2.heap.size,3,none⟩ (.int .i64 (gF (freeK L cn (k+1)) 3))=w7:=⟨_,rfl⟩
     have hf7:w7.heap[w2.heap.size]?=some (.cells #[.int .i64 (gF (freeK L cn (k+1)) 0),.int .i64 (gF (freeK L cn (k+1)) 1),.int .i64 (gF (freeK L cn (k+1)) 2),.int .i64 (gF (freeK L cn (k+1)) 3)] 240 (0,0)):=by rw [<- hw7];exact heap_set4 hf6 _ _ _ _
     have own7:IO w7 w3.heap.size u5 (beginsTo L cn k):=by
      rw [<- hw7]
      have k0:=World.ownsRow.kept own6 (grown_set w6 w2.heap.size 0 (.int .i64 (gF (freeK L cn (k+1)) 0))) (.inr fun e=>by have:=owns_base own6 _ e;omega)
      have k1:=World.ownsRow.kept k0 (grown_set _ w2.heap.size 1 (.int .i64 (gF (freeK L cn (k+1)) 1))) (.inr fun e=>by have:=owns_base own6 _ e;omega)
      have k2:=World.ownsRow.kept k1 (grown_set _ w2.heap.size 2 (.int .i64 (gF (freeK L cn (k+1)) 2))) (.inr fun e=>by have:=owns_base own6 _ e;omega)
      exact World.ownsRow.kept k2 (grown_set _ w2.heap.size 3 _) (.inr fun e=>by have:=owns_base own6 _ e;omega)
     have hx7:Below w.heap.size w w7:=by
      rw [<- hw7]
      exact (((hx6.setCell (p:=⟨w2.heap.size,0,none⟩) hs2 _).setCell (p:=⟨w2.heap.size,1,none⟩) hs2 _).setCell (p:=⟨w2.heap.size,2,none⟩) hs2 _).setCell (p:=⟨w2.heap.size,3,none⟩) hs2 _
     have hz7:w3.heap.size<=w7.heap.size:=by
      have:w6.heap.size<=w7.heap.size:=by rw [<- hw7];simp [World.setCell]
      omega
     have q6:w3.heap.size<=(w7.alloc (.cells #[.int .i64 (X L k)] 3)).heap.size:=by simp;omega
     have HLn:=Lib.hid (show (beginsTo L cn k).length<=1000000000000 by rw [beginsTo_len];omega)
     clear own6 own5 hx6 hx5 hf6 hf5 hn5 hb6
     go_wp2_with (refine app_I ?_ (.tmp 32) (.tmp 34) ?_ w3.heap.size u5 (beginsTo L cn k) (X L k) w7.heap.size ?_ ?_ ?_ ?_ ?_ ?_ ?_;rfl;rfl;rfl;exact (own7.alloc _);rfl;exact (heap_alloc_new _ _);exact HLn.out;exact q6;intro g cap w8 own8 hgr hb8)
     have hz8:=hb8.size
     simp at hz8
     go_roundw
     case rel =>
      refine ⟨k+1,by omega,by go_num,by rw [HS.out];rw [beginsTo_len] at own8 ⊢;exact own8,?_,(hx7.alloc hx7.size _).trans (hb8.mono (by omega)),by omega⟩
      exact (hb8.block w2.heap.size (by omega)).trans ((Below.heap_alloc _ _ _ (by omega)).trans hf7)
     case measure=>simp [intOf];omega
    ·skip
     have HLk:=Lib.hid (fun W=>by have K:=HL.out k hlt W;rw [eB] at K;exact K)
     have HTk:=Lib.hid (fun W=>by have K:=HT.out k hlt W;rw [eB] at K;exact K)
     have HS:=Lib.hid (show beginsTo L cn (k+1)=beginsTo L cn k++[gF (freeK L cn k) 0] by rw [beginsTo_succ,eB])
     clear eB HM HL HT
     go_wp2_with fail
     refine wp_region_wb w4.heap.size (by kernel_rfl) (by kernel_rfl) ?_
     repeat (go_big_quiet_step ((go_at_call 245;exact Calls.inB (Nat.le_refl _) (c_first _ _ _ _ _))))
     refine wpQuiet_nil ?_
     rintro w5 ⟨⟨_,hb5⟩,rfl⟩
     have hz5:=hb5.size
     have hf5:=(hb5.block w2.heap.size (by omega)).trans hf4
     have hn5:=(hb5.block wr.heap.size (by omega)).trans hn4
     have own5:IO w5 w3.heap.size u5 (beginsTo L cn k):=own4.below hb5 (Nat.le_refl _)
     have hx5:Below w.heap.size w w5:=hx4.trans (hb5.mono (by omega))
     have g0:=WB.cell (w:=w5) (B:=w5.heap.size) (show w2.heap.size < w5.heap.size by omega) (cell_of_row w5 w2.heap.size 0 _ _ _ hf5)
     have g1:=WB.cell (w:=w5) (B:=w5.heap.size) (show w2.heap.size < w5.heap.size by omega) (cell_of_row w5 w2.heap.size 1 _ _ _ hf5)
     have g2:=WB.cell (w:=w5) (B:=w5.heap.size) (show w2.heap.size < w5.heap.size by omega) (cell_of_row w5 w2.heap.size 2 _ _ _ hf5)
     have g3:=WB.cell (w:=w5) (B:=w5.heap.size) (show w2.heap.size < w5.heap.size by omega) (cell_of_row w5 w2.heap.size 3 _ _ _ hf5)
     have g4:=WB.cell (w:=w5) (B:=w5.heap.size) (show wr.heap.size < w5.heap.size by omega) (cell_of_row w5 wr.heap.size 0 _ _ _ hn5)
     have g5:=WB.cell (w:=w5) (B:=w5.heap.size) (show wr.heap.size < w5.heap.size by omega) (cell_of_row w5 wr.heap.size 1 _ _ _ hn5)
     clear hf4 hn4 own4 hx4 hb5
     go_wp2_with fail
     refine wp_region_wb_tail w5.heap.size 5 (by kernel_rfl) (by kernel_rfl) ?_
     simp only [List.take_succ_cons,List.take_zero,List.drop_succ_cons,List.drop_zero]
     repeat (go_big_quiet_step (first | (go_at_call 247;exact Calls.inB (Nat.le_refl _) (HLk.out _)) | (go_at_call 246;exact Calls.inB (Nat.le_refl _) (HTk.out _))))
     refine wpQuiet_nil ?_
     rintro w6 ⟨⟨_,hb6⟩,rfl⟩
     have hz6:=hb6.size
     have hf6:=(hb6.block w2.heap.size (by omega)).trans hf5
     have own6:IO w6 w3.heap.size u5 (beginsTo L cn k):=own5.below hb6 (Nat.le_refl _)
     have hx6:Below w.heap.size w w6:=hx5.trans (hb6.mono (by omega))
     have d0:=cell_of_row w6 w2.heap.size 0 _ _ _ hf6
     have d1:=cell_of_row w6 w2.heap.size 1 _ _ _ hf6
     have d2:=cell_of_row w6 w2.heap.size 2 _ _ _ hf6
     have d3:=cell_of_row w6 w2.heap.size 3 _ _ _ hf6
     have ff:∀ i,w6.frozen? ⟨w2.heap.size,i,none⟩=false:=fun i=>by simp only [World.frozen?,hf6];rfl
     obtain ⟨w7,hw7⟩:∃ w7,(((w6.setCell ⟨w2.heap.size,0,none⟩ (.int .i64 (gF (freeK L cn (k+1)) 0))).setCell ⟨w2.heap.size,1,none⟩ (.int .i64 (gF (freeK L cn (k+1)) 1))).setCell ⟨w2.heap.size,2,none⟩ (.int .i64 (gF (freeK L cn (k+1)) 2))).setCell ⟨w2.heap.size,3,none⟩ (.int .i64 (gF (freeK L cn (k+1)) 3))=w7:=⟨_,rfl⟩
     have hf7:w7.heap[w2.heap.size]?=some (.cells #[.int .i64 (gF (freeK L cn (k+1)) 0),.int .i64 (gF (freeK L cn (k+1)) 1),.int .i64 (gF (freeK L cn (k+1)) 2),.int .i64 (gF (freeK L cn (k+1)) 3)] 240 (0,0)):=by rw [<- hw7];exact heap_set4 hf6 _ _ _ _
     have own7:IO w7 w3.heap.size u5 (beginsTo L cn k):=by
      rw [<- hw7]
      have k0:=World.ownsRow.kept own6 (grown_set w6 w2.heap.size 0 (.int .i64 (gF (freeK L cn (k+1)) 0))) (.inr fun e=>by have:=owns_base own6 _ e;omega)
      have k1:=World.ownsRow.kept k0 (grown_set _ w2.heap.size 1 (.int .i64 (gF (freeK L cn (k+1)) 1))) (.inr fun e=>by have:=owns_base own6 _ e;omega)
      have k2:=World.ownsRow.kept k1 (grown_set _ w2.heap.size 2 (.int .i64 (gF (freeK L cn (k+1)) 2))) (.inr fun e=>by have:=owns_base own6 _ e;omega)
      exact World.ownsRow.kept k2 (grown_set _ w2.heap.size 3 _) (.inr fun e=>by have:=owns_base own6 _ e;omega)
     have hx7:Below w.heap.size w w7:=by
      rw [<- hw7]
      exact (((hx6.setCell (p:=⟨w2.heap.size,0,none⟩) hs2 _).setCell (p:=⟨w2.heap.size,1,none⟩) hs2 _).setCell (p:=⟨w2.heap.size,2,none⟩) hs2 _).setCell (p:=⟨w2.heap.size,3,none⟩) hs2 _
     have hz7:w3.heap.size<=w7.heap.size:=by
      have:w6.heap.size<=w7.heap.size:=by rw [<- hw7];simp [World.setCell]
      omega
     have q6:w3.heap.size<=(w7.alloc (.cells #[.int .i64 (gF (freeK L cn k) 0)] 3)).heap.size:=by simp;omega
     have HLn:=Lib.hid (show (beginsTo L cn k).length<=1000000000000 by rw [beginsTo_len];omega)
     clear own6 own5 hx6 hx5 hf6 hf5 hn5 hb6
     go_wp2_with (refine app_I ?_ (.tmp 32) (.tmp 34) ?_ w3.heap.size u5 (beginsTo L cn k) (gF (freeK L cn k) 0) w7.heap.size ?_ ?_ ?_ ?_ ?_ ?_ ?_;rfl;rfl;rfl;exact (own7.alloc _);rfl;exact (heap_alloc_new _ _);exact HLn.out;exact q6;intro g cap w8 own8 hgr hb8)
     have hz8:=hb8.size
     simp at hz8
     go_roundw
     case rel =>
      refine ⟨k+1,by omega,by go_num,by rw [HS.out];rw [beginsTo_len] at own8 ⊢;exact own8,?_,(hx7.alloc hx7.size _).trans (hb8.mono (by omega)),by omega⟩
      exact (hb8.block w2.heap.size (by omega)).trans ((Below.heap_alloc _ _ _ (by omega)).trans hf7)
     case measure=>simp [intOf];omega
   ·obtain rfl:k=L.length:=by omega
    go_wp2_with fail
    go_ret
    exact ⟨_,rfl,by rw [HV.out];exact hown.mono (by omega),hb⟩
 | false =>
  have HV:=Lib.hid (beginsV_no hok)
  have H:=Lib.hid hok
  clear hok
  go_enter Tryz.func210,Tryz.ntmps210
  go_wp2_with fail
  refine HK.out.mono ?_
  rintro e w1 ⟨rfl,hb1⟩
  rw [H.out]
  go_wp2_with fail
  go_ret
  exact ⟨_,rfl,by rw [HV.out];exact IO.nil _ _,hb1⟩
theorem c_iWaitSum (L:List (Int×Int)) (A:Option Addr) (d:Nat) (c:Int) (w:World) (hA:Cs w w.heap.size A L) (hcap:L.length<=d) (hn:L.length<=140737488351232) :
  Calls Tryz.prog 176 #[.slice A L.length d,.int .i64 c] w fun e w'=>e=.returned (.int .i64 (waitSumV L c))∧Below w.heap.size w w':=by
 have HK:=Lib.hid (c_besideOk L A d c w hA hn)
 cases hok:besOk L c with
 | true =>
  have HE:=Lib.hid (fun W (hb:Below w.heap.size w W)=>c_iBeginsOf L A d c W ((hA.below hb).more hb.size) hcap hn)
  obtain ⟨hc,hr⟩:=besOk_parts hok
  obtain ⟨cn,rfl,h1,h4,hcn⟩:=counter_nat hr
  have hlen:=cOk_len hc
  have hel:(beginsV L (cn:Int)).length=L.length:=by rw [beginsV_yes hok,beginsTo_len]
  have HC:=Lib.hid (fun (B:Option Addr) (b:Nat) (w':World) (hb:Below w.heap.size w w') (hB:Is w' w'.heap.size B (beginsV L (cn:Int)))=>show Calls Tryz.prog 209 #[.slice A L.length d,.slice B (beginsV L (cn:Int)).length b,.func (.func 206) #[] #[]] w' fun e w''=>∃ v,e=.returned v∧IO w'' w'.heap.size v (rowN (fun k=>bgn L cn k - X L k) L.length)∧Below w'.heap.size w' w'' from by
   have K:=c_compared 206 (by simp [numF]) #[] (fun k=>bgn L cn k - X L k) L (beginsV L (cn:Int)) A B d b w' ((hA.below hb).more hb.size) hB (by omega) (by omega) (by omega) (fun k W hk hW=>by
    rw [hel] at hk
    rw [beginsV_yes hok,hcn,beginsTo_Z hk]
    have hb1:=cOk_bd hc hk
    have hb2:=bgn_bd hc h1 hk
    exact c_timeUntil _ _ _ W (by omega) (by omega))
   rw [hel] at K ⊢
   exact K)
  have HF:=Lib.hid (fun (B:Option Addr) (b:Nat) (w':World) (hB:Is w' w'.heap.size B (rowN (fun k=>bgn L cn k - X L k) L.length))=>show Calls Tryz.prog 211 #[.slice B (rowN (fun k=>bgn L cn k - X L k) L.length).length b,.int .i64 0,.func (.func 207) #[] #[]] w' fun e w''=>e=.returned (.int .i64 (waitSumV L (cn:Int)))∧Below w'.heap.size w' w'' from by
   have K:=c_foldII 207 (by simp [stepF]) (waitS L cn) (rowN (fun k=>bgn L cn k - X L k) L.length) B b w' hB (by rw [rowN_len];omega) (fun k W hk=>by
    rw [rowN_len] at hk
    rw [rowN_Z _ hk]
    have b1:=waitS_bd hc h1 k (by omega)
    have b2:=bgn_bd hc h1 hk
    have b3:=cOk_bd hc hk
    have K:=c_plus (waitS L cn k) (bgn L cn k - X L k) W (by omega) (by omega)
    have e:waitS L cn k+(bgn L cn k - X L k)=waitS L cn (k+1):=by simp only [waitS];omega
    rw [e] at K
    exact K)
   rw [waitSumV_yes hok,hcn]
   rw [rowN_len] at K ⊢
   exact K)
  have H:=Lib.hid hok
  clear hok hc hr hcn hA hel
  go_enter Tryz.func176,Tryz.ntmps176
  go_wp2_with fail
  refine HK.out.mono ?_
  rintro e w1 ⟨rfl,hb1⟩
  rw [H.out]
  go_wp2_with fail
  refine (HE.out _ hb1).mono ?_
  rintro e w2 ⟨v2,rfl,o2,hb2⟩
  have hx2:=hb1.trans (hb2.mono hb1.size)
  obtain ⟨E2,e2,rfl,-,-,hE2⟩:=o2.form
  go_wp2_with fail
  refine (HC.out _ _ _ hx2 hE2).mono ?_
  rintro e w3 ⟨v3,rfl,o3,hb3⟩
  have hx3:=hx2.trans (hb3.mono hx2.size)
  obtain ⟨E3,e3,rfl,-,-,hE3⟩:=o3.form
  have HF3:=Lib.hid (HF.out E3 e3 w3 hE3)
  go_wp2_with fail
  refine HF3.out.mono ?_
  rintro e w4 ⟨rfl,hb4⟩
  go_wp2_with fail
  go_ret
  exact ⟨rfl,hx3.trans (hb4.mono hx3.size)⟩
 | false =>
  have HV:=Lib.hid (waitSumV_no hok)
  have H:=Lib.hid hok
  clear hok
  go_enter Tryz.func176,Tryz.ntmps176
  go_wp2_with fail
  refine HK.out.mono ?_
  rintro e w1 ⟨rfl,hb1⟩
  rw [H.out]
  go_wp2_with fail
  go_ret
  exact ⟨by rw [HV.out];rfl,hb1⟩
end
section
open Go.RowKit Go.MapKept
def entF:List (ByteArray×Value)->Nat->List MapEntry
 | [],_=>[]
 | x::r,i=>{ key:=.string x.1,val:=x.2,born:=i }::entF r (i+1)
theorem entF_snoc (x:ByteArray×Value):∀ (l:List (ByteArray×Value)) (i:Nat),entF (l++[x]) i=entF l i++[{ key:=.string x.1,val:=x.2,born:=i+l.length }]
 | [],i=>rfl
 | y::r,i=>by simp only [List.cons_append,entF,entF_snoc x r,List.length_cons];congr 4;omega
def mapObj (l:List (ByteArray×Value)):Obj:=.map (entF l 0).toArray l.length
def lookL (s:ByteArray):List (ByteArray×Value)->Option Value
 | []=>none
 | x::r=>if s=x.1 then some x.2 else lookL s r
theorem findNow_none {s:ByteArray}:∀ {l:List (ByteArray×Value)} (_:lookL s l=none) (i j:Nat),Instr.findNow .string (.string s) (entF l i) j=some none:=by
 intro l
 induction l with
 | nil=>intro _ i j;rfl
 | cons x r ih =>
  intro h i j
  simp only [lookL] at h
  split at h
  ·cases h
  ·rename_i hne
   have e:(s == x.1)=false:=by cases hb:(s == x.1) with
    | false=>rfl
    | true=>exact absurd ((bytes_beq _ _).1 hb) hne
   simp only [entF,Instr.findNow,Instr.sameNow,e]
   exact ih h _ _
theorem findNow_some {s:ByteArray} {v:Value}:∀ {l:List (ByteArray×Value)} (_:lookL s l=some v) (i j:Nat),∃ p,Instr.findNow .string (.string s) (entF l i) j=some (some (p,v)):=by
 intro l
 induction l with
 | nil=>intro h;cases h
 | cons x r ih =>
  intro h i j
  simp only [lookL] at h
  split at h
  ·rename_i he
   cases h
   exact ⟨j,by simp only [entF,Instr.findNow,Instr.sameNow,(bytes_beq s x.1).2 he]⟩
  ·rename_i hne
   obtain ⟨p,hp⟩:=ih h (i+1) (j+1)
   refine ⟨p,?_⟩
   have e:(s == x.1)=false:=by cases hb:(s == x.1) with
    | false=>rfl
    | true=>exact absurd ((bytes_beq _ _).1 hb) hne
   simp only [entF,Instr.findNow,Instr.sameNow,e]
   exact hp
section
variable {P:Program} {T K E:TypeId} {w:World} {b:Nat} {l:List (ByteArray×Value)}
theorem setIf_alloc (w:World) (o o':Obj):{ w.alloc o with heap:=(w.alloc o).heap.setIfInBounds w.heap.size o' }=w.alloc o':=by
 have e:∀ o,(w.alloc o)={ w with heap:=w.heap.push o }:=fun _=>rfl
 rw [e,e]
 simp only
 congr 1
 refine Array.ext (by simp) fun i h1 h2=>?_
 rw [Array.getElem_setIfInBounds]
 ·split
  ·rename_i h;subst h;simp
  ·rename_i h
   have hi:i < w.heap.size:=by simp at h2;omega
   rw [Array.getElem_push_lt hi,Array.getElem_push_lt hi]
 ·simpa using h1
theorem run_putF (hT:P.underlying T=some (.map K E)) (hK:P.underlying K=some .string) (w:World) {s:ByteArray} {v:Value} (h:lookL s l=none) :
  (Instr.mapUpdate T (.map (some w.heap.size)) (.string s) v).run P (w.alloc (mapObj l))=.ok () (w.alloc (mapObj (l++[(s,v)]))):=by
 have hb:(w.alloc (mapObj l)).heap[w.heap.size]?=some (.map (entF l 0).toArray l.length):=heap_alloc_new _ _
 have hf:=findNow_none h 0 0
 simp [Instr.mapUpdate,run_underlying hT,MapKept.run_getObj_map hb,run_checkKey hK (show IsKey .string (.string s) from trivial),run_findKey hK hf,run_setObj_map _ hb,Result.andThen]
 refine (setIf_alloc w (mapObj l) (.map (entF l 0++[({ key:=.string s,val:=v,born:=l.length }:MapEntry)]).toArray (l.length+1))).trans ?_
 rw [mapObj,entF_snoc]
 simp
theorem run_lookF_yes (hT:P.underlying T=some (.map K E)) (hK:P.underlying K=some .string) (hb:w.heap[b]?=some (mapObj l)) {s:ByteArray} {v:Value} (h:lookL s l=some v) :
  (Instr.lookup T (.map (some b)) (.string s) true).run P w=.ok (.tuple #[v,.bool true]) w:=by
 obtain ⟨p,hf⟩:=findNow_some h 0 0
 have hb':w.heap[b]?=some (.map (entF l 0).toArray l.length):=hb
 simp [Instr.lookup,run_underlying hT,MapKept.run_getObj_map hb',run_checkKey hK (show IsKey .string (.string s) from trivial),run_findKey hK hf,Result.andThen]
theorem run_lookF_no (hT:P.underlying T=some (.map K E)) (hK:P.underlying K=some .string) (hb:w.heap[b]?=some (mapObj l)) {s:ByteArray} {z:Value} (hz:(zeroValue E).run P w=.ok z w) (h:lookL s l=none) :
  (Instr.lookup T (.map (some b)) (.string s) true).run P w=.ok (.tuple #[z,.bool false]) w:=by
 have hf:=findNow_none h 0 0
 have hb':w.heap[b]?=some (.map (entF l 0).toArray l.length):=hb
 simp [Instr.lookup,run_underlying hT,MapKept.run_getObj_map hb',run_checkKey hK (show IsKey .string (.string s) from trivial),run_findKey hK hf,hz,Result.andThen]
end
end
section
open Go.RowKit Go.MapKept
def qL:List (ByteArray×Value):=[(⟨#[109,97,110,121]⟩,.func (.func 130) #[] #[]),(⟨#[119,97,105,116,115]⟩,.func (.func 131) #[] #[]),(⟨#[108,101,97,118,101,115]⟩,.func (.func 132) #[] #[]),(⟨#[108,97,115,116]⟩,.func (.func 133) #[] #[]),(⟨#[114,111,117,110,100,115]⟩,.func (.func 134) #[] #[]),(⟨#[98,117,115,121]⟩,.func (.func 135) #[] #[]),(⟨#[110,101,101,100]⟩,.func (.func 136) #[] #[]),(⟨#[108,101,97,115,116]⟩,.func (.func 137) #[] #[]),(⟨#[105,100,108,101]⟩,.func (.func 138) #[] #[])]
theorem c_questions (w:World) :
  Calls Tryz.prog 106 #[] w fun e w'=>e=.returned (.map (some w.heap.size))∧w'=w.alloc (mapObj qL):=by
 have hT:Tryz.prog.underlying 136=some (.map 9 134):=by kernel_rfl
 have hK:Tryz.prog.underlying 9=some .string:=by kernel_rfl
 obtain ⟨M,hM⟩:∃ M:List (ByteArray×Value)->World,M=fun l=>w.alloc (mapObj l):=⟨_,rfl⟩
 have h0:(Instr.makeMap 136 none).run Tryz.prog w=.ok (.map (some w.heap.size)) (M (qL.take 0)):=by rw [hM];exact run_makeMap _ w
 have hp:∀ (l:List (ByteArray×Value)) (s:ByteArray) (v:Value),lookL s l=none->(Instr.mapUpdate 136 (.map (some w.heap.size)) (.string s) v).run Tryz.prog (M l)=.ok () (M (l++[(s,v)])):=fun l s v h=>by rw [hM];exact run_putF hT hK w h
 have h1:(Instr.mapUpdate 136 (.map (some w.heap.size)) (.string ⟨#[109,97,110,121]⟩) (.func (.func 130) #[] #[])).run Tryz.prog (M (qL.take 0))=.ok () (M (qL.take 1)):=hp (qL.take 0) _ _ rfl
 have h2:(Instr.mapUpdate 136 (.map (some w.heap.size)) (.string ⟨#[119,97,105,116,115]⟩) (.func (.func 131) #[] #[])).run Tryz.prog (M (qL.take 1))=.ok () (M (qL.take 2)):=hp (qL.take 1) _ _ rfl
 have h3:(Instr.mapUpdate 136 (.map (some w.heap.size)) (.string ⟨#[108,101,97,118,101,115]⟩) (.func (.func 132) #[] #[])).run Tryz.prog (M (qL.take 2))=.ok () (M (qL.take 3)):=hp (qL.take 2) _ _ rfl
 have h4:(Instr.mapUpdate 136 (.map (some w.heap.size)) (.string ⟨#[108,97,115,116]⟩) (.func (.func 133) #[] #[])).run Tryz.prog (M (qL.take 3))=.ok () (M (qL.take 4)):=hp (qL.take 3) _ _ rfl
 have h5:(Instr.mapUpdate 136 (.map (some w.heap.size)) (.string ⟨#[114,111,117,110,100,115]⟩) (.func (.func 134) #[] #[])).run Tryz.prog (M (qL.take 4))=.ok () (M (qL.take 5)):=hp (qL.take 4) _ _ rfl
 have h6:(Instr.mapUpdate 136 (.map (some w.heap.size)) (.string ⟨#[98,117,115,121]⟩) (.func (.func 135) #[] #[])).run Tryz.prog (M (qL.take 5))=.ok () (M (qL.take 6)):=hp (qL.take 5) _ _ rfl
 have h7:(Instr.mapUpdate 136 (.map (some w.heap.size)) (.string ⟨#[110,101,101,100]⟩) (.func (.func 136) #[] #[])).run Tryz.prog (M (qL.take 6))=.ok () (M (qL.take 7)):=hp (qL.take 6) _ _ rfl
 have h8:(Instr.mapUpdate 136 (.map (some w.heap.size)) (.string ⟨#[108,101,97,115,116]⟩) (.func (.func 137) #[] #[])).run Tryz.prog (M (qL.take 7))=.ok () (M (qL.take 8)):=hp (qL.take 7) _ _ rfl
 have h9:(Instr.mapUpdate 136 (.map (some w.heap.size)) (.string ⟨#[105,100,108,101]⟩) (.func (.func 138) #[] #[])).run Tryz.prog (M (qL.take 8))=.ok () (M (qL.take 9)):=hp (qL.take 8) _ _ rfl
 have HE:=Lib.hid (show M (qL.take 9)=w.alloc (mapObj qL) by rw [hM];rfl)
 clear hp hM hT hK
 generalize M (qL.take 0)=W0 at *
 generalize M (qL.take 1)=W1 at *
 generalize M (qL.take 2)=W2 at *
 generalize M (qL.take 3)=W3 at *
 generalize M (qL.take 4)=W4 at *
 generalize M (qL.take 5)=W5 at *
 generalize M (qL.take 6)=W6 at *
 generalize M (qL.take 7)=W7 at *
 generalize M (qL.take 8)=W8 at *
 go_enter Tryz.func106,Tryz.ntmps106
 go_wp2
 go_ret
 exact ⟨rfl,HE.out⟩
def nqL:List (ByteArray×Value):=[(⟨#[119,111,114,107]⟩,.func (.func 139) #[] #[]),(⟨#[111,114,100,101,114]⟩,.func (.func 140) #[] #[]),(⟨#[115,117,109]⟩,.func (.func 141) #[] #[]),(⟨#[98,101,115,105,100,101]⟩,.func (.func 142) #[] #[])]
theorem c_numberQuestions (w:World) :
  Calls Tryz.prog 107 #[] w fun e w'=>e=.returned (.map (some w.heap.size))∧w'=w.alloc (mapObj nqL):=by
 have hT:Tryz.prog.underlying 140=some (.map 9 138):=by kernel_rfl
 have hK:Tryz.prog.underlying 9=some .string:=by kernel_rfl
 obtain ⟨M,hM⟩:∃ M:List (ByteArray×Value)->World,M=fun l=>w.alloc (mapObj l):=⟨_,rfl⟩
 have h0:(Instr.makeMap 140 none).run Tryz.prog w=.ok (.map (some w.heap.size)) (M (nqL.take 0)):=by rw [hM];exact run_makeMap _ w
 have hp:∀ (l:List (ByteArray×Value)) (s:ByteArray) (v:Value),lookL s l=none->(Instr.mapUpdate 140 (.map (some w.heap.size)) (.string s) v).run Tryz.prog (M l)=.ok () (M (l++[(s,v)])):=fun l s v h=>by rw [hM];exact run_putF hT hK w h
 have h1:(Instr.mapUpdate 140 (.map (some w.heap.size)) (.string ⟨#[119,111,114,107]⟩) (.func (.func 139) #[] #[])).run Tryz.prog (M (nqL.take 0))=.ok () (M (nqL.take 1)):=hp (nqL.take 0) _ _ rfl
 have h2:(Instr.mapUpdate 140 (.map (some w.heap.size)) (.string ⟨#[111,114,100,101,114]⟩) (.func (.func 140) #[] #[])).run Tryz.prog (M (nqL.take 1))=.ok () (M (nqL.take 2)):=hp (nqL.take 1) _ _ rfl
 have h3:(Instr.mapUpdate 140 (.map (some w.heap.size)) (.string ⟨#[115,117,109]⟩) (.func (.func 141) #[] #[])).run Tryz.prog (M (nqL.take 2))=.ok () (M (nqL.take 3)):=hp (nqL.take 2) _ _ rfl
 have h4:(Instr.mapUpdate 140 (.map (some w.heap.size)) (.string ⟨#[98,101,115,105,100,101]⟩) (.func (.func 142) #[] #[])).run Tryz.prog (M (nqL.take 3))=.ok () (M (nqL.take 4)):=hp (nqL.take 3) _ _ rfl
 have HE:=Lib.hid (show M (nqL.take 4)=w.alloc (mapObj nqL) by rw [hM];rfl)
 clear hp hM hT hK
 generalize M (nqL.take 0)=W0 at *
 generalize M (nqL.take 1)=W1 at *
 generalize M (nqL.take 2)=W2 at *
 generalize M (nqL.take 3)=W3 at *
 go_enter Tryz.func107,Tryz.ntmps107
 go_wp2
 go_ret
 exact ⟨rfl,HE.out⟩
end
section
open Go.RowKit Go.ChangeShapes Go.WideShapes Go.ChangeAt Go.Deep
theorem cellsI:Tryz.prog.cellsOf 3=1:=by kernel_rfl
theorem cellsLC:Tryz.prog.cellsOf 156=2:=by kernel_rfl
theorem open_lawCust {H:Type} {enc:TypeId×Value->H} {W:World} {A:Option Addr} {n c:Nat} {d:DataW H} {p:List MemPlace}
  (h:DataW.Trod enc Tryz.prog W 0 (fun _=>true) true 53 (.slice A n c) d p) :
  ∃ L:List (Int×Int),L.length=n∧n<=c∧c<=maxLen∧Cs W W.heap.size A L:=by
 obtain ⟨fuel,hf⟩:=h
 rcases open_slice_pairs Tryz.underlying53 Tryz.underlying156 cellsLC rfl rfl cellsI cellsI hf with ⟨hcs,_⟩ | ⟨a,len,cap,m,k,V0,V1,D0,D1,P0,P1,hcs,_,hl,hm,hmm,_,hx⟩
 ·simp [Value.cells] at hcs
  obtain ⟨rfl,rfl,rfl⟩:=hcs
  exact ⟨[],rfl,Nat.le_refl _,by simp [maxLen],fun h=>by simp at h⟩
 ·simp [Value.cells] at hcs
  obtain ⟨rfl,rfl,rfl⟩:=hcs
  have hmc:m=c:=by simpa using hmm
  subst hmc
  have key:∀ i,i < m->V0 i=.int .i64 (intOf (V0 i))∧V1 i=.int .i64 (intOf (V1 i)):=by
   intro i hi
   obtain ⟨_,_,h0,h1⟩:=hx i hi
   obtain ⟨x,e0,_⟩:=DataW.trod_int Tryz.underlying3 h0
   obtain ⟨y,e1,_⟩:=DataW.trod_int Tryz.underlying3 h1
   simp at e0 e1
   rw [e0,e1]
   exact ⟨rfl,rfl⟩
  refine ⟨(List.range n).map fun i=>(intOf (V0 i),intOf (V1 i)),by simp,hl,hm,fun hp=>?_⟩
  simp only [List.length_map,List.length_range] at hp
  obtain ⟨b,off,spot⟩:=a
  have hc0:=(hx 0 (by omega)).1
  have hspot:spot=none:=by simpa [Addr.add] using World.cell?_spot hc0
  subst hspot
  have hadd:∀ j,(⟨b,off,none⟩:Addr).add j=⟨b,off+j,none⟩:=by
   intro j
   by_cases e:j=0 <;> simp [Addr.add,e]
  refine ⟨b,off,rfl,?_,fun i hi=>?_⟩
  ·rw [hadd] at hc0
   exact World.block_lt_of_cell? W ⟨b,off+0 * 2,none⟩ hc0
  ·simp only [List.length_map,List.length_range] at hi
   obtain ⟨h0,h1,_⟩:=hx i (by omega)
   rw [hadd] at h0 h1
   have hk:=key i (by omega)
   refine ⟨?_,?_⟩
   ·rw [h0,hk.1];simp [X,hi,intOf]
   ·rw [<- Nat.add_assoc] at h1
    rw [h1,hk.2];simp [Y,hi,intOf]
end
end Go.Proofs.YthpccmkagikhjaaGreatDoor

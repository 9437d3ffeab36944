import Derived.Test.YticccnkanihpnaaDoorQDeedText1
import Derived.Test.YticccnkanihpnaaDoorQDeedText2
import Derived.RegionCalls
import Derived.Lib.SliceRun
import Derived.Lib.IndexMore
import Derived.Lib.Join
import Derived.Lib.Atoi
import Derived.Lib.SplitLaws
import Derived.Deep.Upon
import Derived.OwnWalk
namespace Go.Proofs.YticccnkanihpnaaDoor
set_option linter.unusedVariables false
open Go.RowKit
attribute [local go_sem ↓] Go.wp_at_zero Go.wp_at_succ
def formVal (k:Int):Value :=
 if k=0 then .agg #[.string ⟨#[99,111,109,101]⟩,.int .i64 2] else if k=1 then .agg #[.string ⟨#[103,111]⟩,.int .i64 0] else if k=2 then .agg #[.string ⟨#[110,101,101,100]⟩,.int .i64 1]
 else if k=3 then .agg #[.string ⟨#[108,97,116,101,114]⟩,.int .i64 1] else .agg #[.string ⟨#[98,97,99,107]⟩,.int .i64 0]
def formOk (k a b:Int):Bool:=decide (k=0) || (decide (k=1) && decide (a=0) && decide (b=0)) || (decide (k=2) && decide (b=0)) || (decide (k=3) && decide (b=0)) || (decide (k=4) && decide (a=0) && decide (b=0))
set_option maxHeartbeats 1000000 in
theorem c_deedForms (w:World) :
  Calls Tryd.prog 41 #[] w fun e w'=>e=.returned (.agg #[.string ⟨#[99,111,109,101]⟩,.int .i64 2,.string ⟨#[103,111]⟩,.int .i64 0,.string ⟨#[110,101,101,100]⟩,.int .i64 1,.string ⟨#[108,97,116,101,114]⟩,.int .i64 1,.string ⟨#[98,97,99,107]⟩,.int .i64 0])∧Below w.heap.size w w':=by
 go_enter Tryd.func41,Tryd.ntmps41
 go_wp2_with fail
 exact bodyPost_ret (v:=.agg #[.string ⟨#[99,111,109,101]⟩,.int .i64 2,.string ⟨#[103,111]⟩,.int .i64 0,.string ⟨#[110,101,101,100]⟩,.int .i64 1,.string ⟨#[108,97,116,101,114]⟩,.int .i64 1,.string ⟨#[98,97,99,107]⟩,.int .i64 0]) (by simp [results,Tryd.f41,go_sem]) rfl ⟨rfl,by (repeat (first | exact rfl | exact Below.refl _ _ | (with_reducible refine Below.drew ?_) | (with_reducible refine Below.drewN ?_ _) | (with_reducible refine Below.alloc ?_ ?_ _) | (with_reducible refine Below.setCell ?_ ?_ _) | (show _<=_;focus (first | omega | (simp;done) | (simp;omega)))))⟩
set_option maxHeartbeats 1000000 in
theorem c_numbers (k a b:Int) (w:World) :
  Calls Tryd.prog 34 #[.agg #[.int .i64 k,.int .i64 a,.int .i64 b]] w fun e w'=>∃ g,e=.returned (.slice (some ⟨g,0,none⟩) 2 2)∧w'.cell? ⟨g,0,none⟩=some (.int .i64 a)∧w'.cell? ⟨g,1,none⟩=some (.int .i64 b)∧g < w'.heap.size∧Below w.heap.size w w':=by
 go_enter Tryd.func34,Tryd.ntmps34
 go_wp2_with fail
 go_ret
 exact ⟨_,rfl,by simp [go_sem],by simp [go_sem],by simp,by (repeat (first | exact rfl | exact Below.refl _ _ | (with_reducible refine Below.drew ?_) | (with_reducible refine Below.drewN ?_ _) | (with_reducible refine Below.alloc ?_ ?_ _) | (with_reducible refine Below.setCell ?_ ?_ _) | (show _<=_;focus (first | omega | (simp;done) | (simp;omega)))))⟩
theorem c_isNot0 (x:Int) (w:World):Calls Tryd.prog 55 #[.int .i64 x] w fun e w'=>e=.returned (.bool (!decide (x=0)))∧w=w':=by
 go_enter Tryd.func55,Tryd.ntmps55
 by_cases h:x=0
 ·subst h
  go_wp2_with fail
  go_ret
  exact ⟨rfl,rfl⟩
 ·have h2:(x == 0)=false:=beq_eq_false_iff_ne.2 h
  have h3:(x != 0)=true:=by simp [bne,h2]
  go_wp2_with fail
  go_ret
  exact ⟨by simp [h],rfl⟩
set_option maxHeartbeats 2000000 in
theorem c_indexNot0 (xs:List Int) (A:Option Addr) (B c:Nat) (w:World) (hA:Is w B A xs) (hn:xs.length<=140737488351232) :
  Calls Tryd.prog 63 #[.slice A xs.length c,.func (.func 55) #[] #[]] w fun e w'=>(∃ i:Int,e=.returned (.int .i64 i)∧decide (0<=i)=!xs.all (fun x=>decide (x=0)))∧w=w':=by
 go_enter Tryd.func63,Tryd.ntmps63
 go_wp2_with fail
 go_loopw [8] (fun i wr=>∃ k:Nat,k<=xs.length∧i=.int .i64 k∧Hid (∀ j,j < k->Z xs j=0)∧wr=w) (fun i _=>xs.length - (intOf i).toNat)
 case atStart=>exact ⟨0,by omega,rfl,Lib.hid (fun j hj=>by omega),rfl⟩
 case round =>
  obtain ⟨k,hk,rfl,HN,rfl⟩:=hrel
  by_cases hlt:k < xs.length
  ·obtain ⟨gb,go,rfl,hgb,hgc⟩:=hA (by omega)
   have c0:=hgc k hlt
   have p1:(0:Int)<=(k:Int):=by omega
   have p2:(k:Int) < (xs.length:Int):=by omega
   clear hgc
   by_cases hz:Z xs k=0
   ·have hd:decide (Z xs k=0)=true:=decide_eq_true hz
    have HB:=Lib.hid (show ∀ j,j < k+1->Z xs j=0 from fun j hj=>by
     rcases Nat.lt_succ_iff_lt_or_eq.1 hj with h | rfl
     ·exact HN.out j h
     ·exact hz)
    clear hz
    go_wp2_with fail
    refine (c_isNot0 _ _).mono ?_
    rintro e w1 ⟨rfl,rfl⟩
    rw [hd]
    go_wp2_with fail
    go_roundw
    case rel=>exact ⟨k+1,by omega,by go_num,HB,trivial⟩
    case measure=>simp [intOf];omega
   ·have hd:decide (Z xs k=0)=false:=decide_eq_false hz
    have HB:=Lib.hid (show decide ((0:Int)<=(k:Int))=!xs.all (fun x=>decide (x=0)) by
     cases h:xs.all (fun x=>decide (x=0)) with
     | true =>
      have:=List.all_eq_true.1 h _ (List.getElem_mem hlt)
      have e:Z xs k=xs[k]:=by simp [Z,hlt]
      rw [e] at hz
      simp at this
      exact absurd this hz
     | false=>simp)
    clear hz
    go_wp2_with fail
    refine (c_isNot0 _ _).mono ?_
    rintro e w1 ⟨rfl,rfl⟩
    rw [hd]
    go_wp2_with fail
    go_ret
    exact ⟨⟨_,rfl,HB.out⟩,rfl⟩
  ·have hlf:¬ ((k:Int) < (xs.length:Int)):=by omega
   obtain rfl:k=xs.length:=by omega
   have HB:=Lib.hid (show decide ((0:Int)≤-1)=!xs.all (fun x=>decide (x=0)) by
    have:xs.all (fun x=>decide (x=0))=true:=List.all_eq_true.2 (fun x hx=>by
     obtain ⟨k,hk,rfl⟩:=List.getElem_of_mem hx
     have:=HN.out k hk
     simpa [Z,hk] using this)
    rw [this];rfl)
   go_wp2_with fail
   go_ret
   exact ⟨⟨_,rfl,HB.out⟩,rfl⟩
theorem c_anyNot0 (xs:List Int) (A:Option Addr) (B c:Nat) (w:World) (hA:Is w B A xs) (hn:xs.length<=140737488351232) :
  Calls Tryd.prog 54 #[.slice A xs.length c,.func (.func 55) #[] #[]] w fun e w'=>e=.returned (.bool (!xs.all (fun x=>decide (x=0))))∧w=w':=by
 go_enter Tryd.func54,Tryd.ntmps54
 go_wp2_with fail
 refine (c_indexNot0 xs A B c w hA hn).mono ?_
 rintro e w1 ⟨⟨i,rfl,hi⟩,rfl⟩
 go_wp2_with fail
 go_ret
 rw [<- hi]
 exact ⟨rfl,rfl⟩
theorem c_any0 (A:Option Addr) (c:Nat) (w:World):Calls Tryd.prog 54 #[.slice A 0 c,.func (.func 55) #[] #[]] w fun e w'=>e=.returned (.bool false)∧w=w' :=
 c_anyNot0 [] A 0 c w (fun h=>by simp at h) (by simp)
theorem c_any1 (x:Int) (g off c:Nat) (w:World) (h:w.cell? ⟨g,off,none⟩=some (.int .i64 x)) :
  Calls Tryd.prog 54 #[.slice (some ⟨g,off,none⟩) 1 c,.func (.func 55) #[] #[]] w fun e w'=>e=.returned (.bool (!decide (x=0)))∧w=w' :=
 (c_anyNot0 [x] (some ⟨g,off,none⟩) (g+1) c w (fun _=>⟨g,off,rfl,by omega,fun k hk=>by
   have hk0:k=0:=by simpa using hk
   subst hk0
   exact h⟩) (by simp)).mono fun e w' he=>⟨by rw [he.1];simp,he.2⟩
theorem c_any2 (x y:Int) (g off c:Nat) (w:World) (h:w.cell? ⟨g,off,none⟩=some (.int .i64 x)) (h2:w.cell? ⟨g,off+1,none⟩=some (.int .i64 y)) :
  Calls Tryd.prog 54 #[.slice (some ⟨g,off,none⟩) 2 c,.func (.func 55) #[] #[]] w fun e w'=>e=.returned (.bool (!(decide (x=0) && decide (y=0))))∧w=w' :=
 (c_anyNot0 [x,y] (some ⟨g,off,none⟩) (g+1) c w (fun _=>⟨g,off,rfl,by omega,fun k hk=>by
   have hk2:k=0∨k=1:=by simp at hk;omega
   rcases hk2 with rfl | rfl
   ·exact h
   ·exact h2⟩) (by simp)).mono fun e w' he=>⟨by rw [he.1];simp,he.2⟩
theorem formOk_no {k a b:Int} (h:¬ (0<=k∧k<=4)):formOk k a b=false:=by
 have:k≠0∧k≠1∧k≠2∧k≠3∧k≠4:=by omega
 simp [formOk,this]
set_option maxRecDepth 8000 in
set_option maxHeartbeats 4000000 in
theorem c_form0 (k:Nat) (W:ByteArray) (a b:Int) (hk:k<=4) (hA:(#[.string ⟨#[99,111,109,101]⟩,.int .i64 2,.string ⟨#[103,111]⟩,.int .i64 0,.string ⟨#[110,101,101,100]⟩,.int .i64 1,.string ⟨#[108,97,116,101,114]⟩,.int .i64 1,.string ⟨#[98,97,99,107]⟩,.int .i64 0]:Array Value)[k * 2]?=some (.string W)∧(#[.string ⟨#[99,111,109,101]⟩,.int .i64 2,.string ⟨#[103,111]⟩,.int .i64 0,.string ⟨#[110,101,101,100]⟩,.int .i64 1,.string ⟨#[108,97,116,101,114]⟩,.int .i64 1,.string ⟨#[98,97,99,107]⟩,.int .i64 0]:Array Value)[k * 2+1]?=some (.int .i64 0)) (w:World) :
  Calls Tryd.prog 33 #[.agg #[.int .i64 (k:Int),.int .i64 a,.int .i64 b]] w fun e w'=>e=.returned (.tuple #[.agg #[.string W,.int .i64 0],.bool (decide (a=0) && decide (b=0))])∧Below w.heap.size w w':=by
 have hd:decide ((0:Int)<=(k:Int)∧(k:Int)<=4)=true:=decide_eq_true (by omega)
 have HD:=Lib.hid hd
 obtain ⟨w0,hw0⟩:∃ w0,(w.alloc (.cells #[.int .i64 (k:Int),.int .i64 a,.int .i64 b] 24)).alloc (.cells #[.string ⟨#[]⟩,.int .i64 0] 54)=w0:=⟨_,rfl⟩
 have hz0:w0.heap.size=w.heap.size+2:=by rw [<- hw0];simp
 have hb0:Below w.heap.size w w0:=by rw [<- hw0];exact ((Below.refl _ w).alloc (Nat.le_refl _) _).alloc (by simp) _
 have bD:w0.heap[w.heap.size]?=some (.cells #[.int .i64 (k:Int),.int .i64 a,.int .i64 b] 24 (0,0)):=by rw [<- hw0];exact (Below.heap_alloc _ _ _ (by simp)).trans (heap_alloc_new _ _)
 have bR:w0.heap[w.heap.size+1]?=some (.cells #[.string ⟨#[]⟩,.int .i64 0] 54 (0,0)):=by
  rw [<- hw0]
  have h:=heap_alloc_new (w.alloc (.cells #[.int .i64 (k:Int),.int .i64 a,.int .i64 b] 24)) (.cells #[.string ⟨#[]⟩,.int .i64 0] 54)
  rwa [show (w.alloc (.cells #[.int .i64 (k:Int),.int .i64 a,.int .i64 b] 24)).heap.size=w.heap.size+1 by simp] at h
 have HS:=Lib.hid (fun (W':World) (hb:Below (w.heap.size+1) w0 W')=>show W'.cell? ⟨w.heap.size,0,none⟩=some (.int .i64 (k:Int))∧W'.cell? ⟨w.heap.size,1,none⟩=some (.int .i64 a)∧W'.cell? ⟨w.heap.size,2,none⟩=some (.int .i64 b) from by
  have b:=(hb.block w.heap.size (by omega)).trans bD
  exact ⟨cell_of_row _ w.heap.size 0 _ _ _ b,cell_of_row _ w.heap.size 1 _ _ _ b,cell_of_row _ w.heap.size 2 _ _ _ b⟩)
 have p1:(0:Int)<=(k:Int):=by omega
 have p2:(k:Int) < 5:=by omega
 clear bD hk hd
 go_enter Tryd.func33,Tryd.ntmps33
 go_wp2_with fail
 refine (c_deedForms _).mono ?_
 rintro e w1 ⟨rfl,hb1⟩
 have hz1:=hb1.size
 have c0:=(HS.out (w1.alloc (.cells #[.string ⟨#[99,111,109,101]⟩,.int .i64 2,.string ⟨#[103,111]⟩,.int .i64 0,.string ⟨#[110,101,101,100]⟩,.int .i64 1,.string ⟨#[108,97,116,101,114]⟩,.int .i64 1,.string ⟨#[98,97,99,107]⟩,.int .i64 0] 66)) ((hb1.alloc hz1 _).mono (by omega))).1
 go_wp2_with fail
 refine (c_within _ _ _ _).mono ?_
 rintro e w' ⟨rfl,rfl⟩
 rw [HD.out]
 clear c0
 obtain ⟨w2,hw2⟩:∃ w2,w1.alloc (.cells #[.string ⟨#[99,111,109,101]⟩,.int .i64 2,.string ⟨#[103,111]⟩,.int .i64 0,.string ⟨#[110,101,101,100]⟩,.int .i64 1,.string ⟨#[108,97,116,101,114]⟩,.int .i64 1,.string ⟨#[98,97,99,107]⟩,.int .i64 0] 66)=w2:=⟨_,rfl⟩
 have hb2:Below w1.heap.size w1 w2:=by rw [<- hw2];exact (Below.refl _ w1).alloc (Nat.le_refl _) _
 have hz2:w2.heap.size=w1.heap.size+1:=by rw [<- hw2];simp
 have bF:w2.heap[w1.heap.size]?=some (.cells #[.string ⟨#[99,111,109,101]⟩,.int .i64 2,.string ⟨#[103,111]⟩,.int .i64 0,.string ⟨#[110,101,101,100]⟩,.int .i64 1,.string ⟨#[108,97,116,101,114]⟩,.int .i64 1,.string ⟨#[98,97,99,107]⟩,.int .i64 0] 66 (0,0)):=by rw [<- hw2];exact heap_alloc_new _ _
 have x0:=(cell_of_row _ w1.heap.size (k * 2) _ _ _ bF).trans hA.1
 have x1:=(cell_of_row _ w1.heap.size (k * 2+1) _ _ _ bF).trans hA.2
 have hx2:=hb1.trans (hb2.mono hz1)
 obtain ⟨c0,c1,c2⟩:=HS.out _ (hx2.mono (by omega))
 rw [hw2]
 clear bF hA hw2
 have hlt2:w1.heap.size < w2.heap.size:=by omega
 clear hz2
 go_wp2_with fail
 obtain ⟨w3,hw3⟩:∃ w3,w2.alloc (.cells #[.string W,.int .i64 0] 54)=w3:=⟨_,rfl⟩
 have hb3:Below w2.heap.size w2 w3:=by rw [<- hw3];exact (Below.refl _ w2).alloc (Nat.le_refl _) _
 have hz3:w2.heap.size < w3.heap.size:=by rw [<- hw3];simp
 have bG:w3.heap[w2.heap.size]?=some (.cells #[.string W,.int .i64 0] 54 (0,0)):=by rw [<- hw3];exact heap_alloc_new _ _
 rw [hw3]
 have hx3:=hx2.trans (hb3.mono (by omega))
 have HG:=Lib.hid (fun (W':World) (hb:Below w3.heap.size w3 W')=>show W'.cell? ⟨w.heap.size,0,none⟩=some (.int .i64 (k:Int))∧W'.cell? ⟨w.heap.size,1,none⟩=some (.int .i64 a)∧W'.cell? ⟨w.heap.size,2,none⟩=some (.int .i64 b)∧W'.cell? ⟨w2.heap.size,0,none⟩=some (.string W)∧W'.cell? ⟨w2.heap.size,1,none⟩=some (.int .i64 0) from by
  have b:=(hb.block w2.heap.size (by omega)).trans bG
  obtain ⟨s0,s1,s2⟩:=HS.out W' ((hx3.trans (hb.mono (by omega))).mono (by omega))
  exact ⟨s0,s1,s2,cell_of_row _ w2.heap.size 0 _ _ _ b,cell_of_row _ w2.heap.size 1 _ _ _ b⟩)
 obtain ⟨g0,g1,g2,g3,g4⟩:=HG.out _ (Below.refl _ w3)
 have hd3:Below w3.heap.size w3 w3.drew:=(Below.refl _ w3).drew
 clear bG hb2 hb3 hw0 hw3 c0 c1 c2 x0 x1
 go_region_held3 (fun W'=>W'.cell? ⟨w.heap.size,0,none⟩=some (.int .i64 (k:Int))∧W'.cell? ⟨w.heap.size,1,none⟩=some (.int .i64 a)∧W'.cell? ⟨w.heap.size,2,none⟩=some (.int .i64 b)∧W'.cell? ⟨w2.heap.size,0,none⟩=some (.string W)∧W'.cell? ⟨w2.heap.size,1,none⟩=some (.int .i64 0))
  (first
    | go_keep
    | exact HG.out _ hx6)
  (first
    | (go_at_call 34;refine (c_numbers _ _ _ _).mono ?_;rintro e w6 ⟨g,rfl,e0,e1,hg,hb6⟩;have hx6:Below w3.heap.size w3 w6:=hd3.trans hb6))
 obtain ⟨y0,y1,y2,y3,y4⟩:=HG.out _ hx6
 have hy6:=hx3.trans (hx6.mono (by omega))
 have b6:=(hy6.block (w.heap.size+1) (by omega)).trans bR
 have r0:=cell_of_row _ (w.heap.size+1) 0 _ _ _ b6
 have r1:=cell_of_row _ (w.heap.size+1) 1 _ _ _ b6
 have f0:w6.frozen? ⟨w.heap.size+1,0,none⟩=false:=unfrozenB b6
 have f1:w6.frozen? ⟨w.heap.size+1,1,none⟩=false:=unfrozenB b6
 have hlR:w.heap.size+1 < w2.heap.size:=by omega
 have HK:=Lib.hid (fun (p q:Value)=>show ((w6.setCell ⟨w.heap.size+1,0,none⟩ p).setCell ⟨w.heap.size+1,1,none⟩ q).drew.cell? ⟨w2.heap.size,0,none⟩=some (.string W)∧((w6.setCell ⟨w.heap.size+1,0,none⟩ p).setCell ⟨w.heap.size+1,1,none⟩ q).drew.cell? ⟨w2.heap.size,1,none⟩=some (.int .i64 0) from
  ⟨(World.cell?_of_block (far2 w6 (w.heap.size+1) p q w2.heap.size (by omega))).trans y3,(World.cell?_of_block (far2 w6 (w.heap.size+1) p q w2.heap.size (by omega))).trans y4⟩)
 have E0:=Lib.hid e0
 have E1:=Lib.hid e1
 have HB:=Lib.hid b6
 have HY:=Lib.hid (show Below w.heap.size w w6 from hb0.trans (hy6.mono (by omega)))
 clear g0 g1 g2 g3 g4 y0 y1 y2 hx6 hy6 hb6 hd3 e0 e1 b6 hx2 hx3
 go_wp2_with fail
 go_region_held3 (fun W'=>W'.cell? ⟨w2.heap.size,0,none⟩=some (.string W)∧W'.cell? ⟨w2.heap.size,1,none⟩=some (.int .i64 0))
  (first
    | exact HK.out _ _
    | go_keep)
  (first
    | (go_at_call 54;refine (c_any2 a b g 0 2 _ (by exact E0.out) (by exact E1.out)).mono ?_;rintro e w' ⟨rfl,rfl⟩))
 go_wp2_with fail
 obtain ⟨k0,k1⟩:=put2 (.string W) (.int .i64 0) HB.out
 refine bodyPost_ret (v:=.tuple #[.agg #[.string W,.int .i64 0],.bool (decide (a=0) && decide (b=0))]) (by simp [results,Tryd.f33,go_sem,k0,k1]) rfl ?_
 exact ⟨rfl,(HY.out.drew.setCell (p:=⟨w.heap.size+1,0,none⟩) (by simp) _).setCell (p:=⟨w.heap.size+1,1,none⟩) (by simp) _⟩
set_option maxRecDepth 8000 in
set_option maxHeartbeats 4000000 in
theorem c_form1 (k:Nat) (W:ByteArray) (a b:Int) (hk:k<=4) (hA:(#[.string ⟨#[99,111,109,101]⟩,.int .i64 2,.string ⟨#[103,111]⟩,.int .i64 0,.string ⟨#[110,101,101,100]⟩,.int .i64 1,.string ⟨#[108,97,116,101,114]⟩,.int .i64 1,.string ⟨#[98,97,99,107]⟩,.int .i64 0]:Array Value)[k * 2]?=some (.string W)∧(#[.string ⟨#[99,111,109,101]⟩,.int .i64 2,.string ⟨#[103,111]⟩,.int .i64 0,.string ⟨#[110,101,101,100]⟩,.int .i64 1,.string ⟨#[108,97,116,101,114]⟩,.int .i64 1,.string ⟨#[98,97,99,107]⟩,.int .i64 0]:Array Value)[k * 2+1]?=some (.int .i64 1)) (w:World) :
  Calls Tryd.prog 33 #[.agg #[.int .i64 (k:Int),.int .i64 a,.int .i64 b]] w fun e w'=>e=.returned (.tuple #[.agg #[.string W,.int .i64 1],.bool (decide (b=0))])∧Below w.heap.size w w':=by
 have hd:decide ((0:Int)<=(k:Int)∧(k:Int)<=4)=true:=decide_eq_true (by omega)
 have HD:=Lib.hid hd
 obtain ⟨w0,hw0⟩:∃ w0,(w.alloc (.cells #[.int .i64 (k:Int),.int .i64 a,.int .i64 b] 24)).alloc (.cells #[.string ⟨#[]⟩,.int .i64 0] 54)=w0:=⟨_,rfl⟩
 have hz0:w0.heap.size=w.heap.size+2:=by rw [<- hw0];simp
 have hb0:Below w.heap.size w w0:=by rw [<- hw0];exact ((Below.refl _ w).alloc (Nat.le_refl _) _).alloc (by simp) _
 have bD:w0.heap[w.heap.size]?=some (.cells #[.int .i64 (k:Int),.int .i64 a,.int .i64 b] 24 (0,0)):=by rw [<- hw0];exact (Below.heap_alloc _ _ _ (by simp)).trans (heap_alloc_new _ _)
 have bR:w0.heap[w.heap.size+1]?=some (.cells #[.string ⟨#[]⟩,.int .i64 0] 54 (0,0)):=by
  rw [<- hw0]
  have h:=heap_alloc_new (w.alloc (.cells #[.int .i64 (k:Int),.int .i64 a,.int .i64 b] 24)) (.cells #[.string ⟨#[]⟩,.int .i64 0] 54)
  rwa [show (w.alloc (.cells #[.int .i64 (k:Int),.int .i64 a,.int .i64 b] 24)).heap.size=w.heap.size+1 by simp] at h
 have HS:=Lib.hid (fun (W':World) (hb:Below (w.heap.size+1) w0 W')=>show W'.cell? ⟨w.heap.size,0,none⟩=some (.int .i64 (k:Int))∧W'.cell? ⟨w.heap.size,1,none⟩=some (.int .i64 a)∧W'.cell? ⟨w.heap.size,2,none⟩=some (.int .i64 b) from by
  have b:=(hb.block w.heap.size (by omega)).trans bD
  exact ⟨cell_of_row _ w.heap.size 0 _ _ _ b,cell_of_row _ w.heap.size 1 _ _ _ b,cell_of_row _ w.heap.size 2 _ _ _ b⟩)
 have p1:(0:Int)<=(k:Int):=by omega
 have p2:(k:Int) < 5:=by omega
 clear bD hk hd
 go_enter Tryd.func33,Tryd.ntmps33
 go_wp2_with fail
 refine (c_deedForms _).mono ?_
 rintro e w1 ⟨rfl,hb1⟩
 have hz1:=hb1.size
 have c0:=(HS.out (w1.alloc (.cells #[.string ⟨#[99,111,109,101]⟩,.int .i64 2,.string ⟨#[103,111]⟩,.int .i64 0,.string ⟨#[110,101,101,100]⟩,.int .i64 1,.string ⟨#[108,97,116,101,114]⟩,.int .i64 1,.string ⟨#[98,97,99,107]⟩,.int .i64 0] 66)) ((hb1.alloc hz1 _).mono (by omega))).1
 go_wp2_with fail
 refine (c_within _ _ _ _).mono ?_
 rintro e w' ⟨rfl,rfl⟩
 rw [HD.out]
 clear c0
 obtain ⟨w2,hw2⟩:∃ w2,w1.alloc (.cells #[.string ⟨#[99,111,109,101]⟩,.int .i64 2,.string ⟨#[103,111]⟩,.int .i64 0,.string ⟨#[110,101,101,100]⟩,.int .i64 1,.string ⟨#[108,97,116,101,114]⟩,.int .i64 1,.string ⟨#[98,97,99,107]⟩,.int .i64 0] 66)=w2:=⟨_,rfl⟩
 have hb2:Below w1.heap.size w1 w2:=by rw [<- hw2];exact (Below.refl _ w1).alloc (Nat.le_refl _) _
 have hz2:w2.heap.size=w1.heap.size+1:=by rw [<- hw2];simp
 have bF:w2.heap[w1.heap.size]?=some (.cells #[.string ⟨#[99,111,109,101]⟩,.int .i64 2,.string ⟨#[103,111]⟩,.int .i64 0,.string ⟨#[110,101,101,100]⟩,.int .i64 1,.string ⟨#[108,97,116,101,114]⟩,.int .i64 1,.string ⟨#[98,97,99,107]⟩,.int .i64 0] 66 (0,0)):=by rw [<- hw2];exact heap_alloc_new _ _
 have x0:=(cell_of_row _ w1.heap.size (k * 2) _ _ _ bF).trans hA.1
 have x1:=(cell_of_row _ w1.heap.size (k * 2+1) _ _ _ bF).trans hA.2
 have hx2:=hb1.trans (hb2.mono hz1)
 obtain ⟨c0,c1,c2⟩:=HS.out _ (hx2.mono (by omega))
 rw [hw2]
 clear bF hA hw2
 have hlt2:w1.heap.size < w2.heap.size:=by omega
 clear hz2
 go_wp2_with fail
 obtain ⟨w3,hw3⟩:∃ w3,w2.alloc (.cells #[.string W,.int .i64 1] 54)=w3:=⟨_,rfl⟩
 have hb3:Below w2.heap.size w2 w3:=by rw [<- hw3];exact (Below.refl _ w2).alloc (Nat.le_refl _) _
 have hz3:w2.heap.size < w3.heap.size:=by rw [<- hw3];simp
 have bG:w3.heap[w2.heap.size]?=some (.cells #[.string W,.int .i64 1] 54 (0,0)):=by rw [<- hw3];exact heap_alloc_new _ _
 rw [hw3]
 have hx3:=hx2.trans (hb3.mono (by omega))
 have HG:=Lib.hid (fun (W':World) (hb:Below w3.heap.size w3 W')=>show W'.cell? ⟨w.heap.size,0,none⟩=some (.int .i64 (k:Int))∧W'.cell? ⟨w.heap.size,1,none⟩=some (.int .i64 a)∧W'.cell? ⟨w.heap.size,2,none⟩=some (.int .i64 b)∧W'.cell? ⟨w2.heap.size,0,none⟩=some (.string W)∧W'.cell? ⟨w2.heap.size,1,none⟩=some (.int .i64 1) from by
  have b:=(hb.block w2.heap.size (by omega)).trans bG
  obtain ⟨s0,s1,s2⟩:=HS.out W' ((hx3.trans (hb.mono (by omega))).mono (by omega))
  exact ⟨s0,s1,s2,cell_of_row _ w2.heap.size 0 _ _ _ b,cell_of_row _ w2.heap.size 1 _ _ _ b⟩)
 obtain ⟨g0,g1,g2,g3,g4⟩:=HG.out _ (Below.refl _ w3)
 have hd3:Below w3.heap.size w3 w3.drew:=(Below.refl _ w3).drew
 clear bG hb2 hb3 hw0 hw3 c0 c1 c2 x0 x1
 go_region_held3 (fun W'=>W'.cell? ⟨w.heap.size,0,none⟩=some (.int .i64 (k:Int))∧W'.cell? ⟨w.heap.size,1,none⟩=some (.int .i64 a)∧W'.cell? ⟨w.heap.size,2,none⟩=some (.int .i64 b)∧W'.cell? ⟨w2.heap.size,0,none⟩=some (.string W)∧W'.cell? ⟨w2.heap.size,1,none⟩=some (.int .i64 1))
  (first
    | go_keep
    | exact HG.out _ hx6)
  (first
    | (go_at_call 34;refine (c_numbers _ _ _ _).mono ?_;rintro e w6 ⟨g,rfl,e0,e1,hg,hb6⟩;have hx6:Below w3.heap.size w3 w6:=hd3.trans hb6))
 obtain ⟨y0,y1,y2,y3,y4⟩:=HG.out _ hx6
 have hy6:=hx3.trans (hx6.mono (by omega))
 have b6:=(hy6.block (w.heap.size+1) (by omega)).trans bR
 have r0:=cell_of_row _ (w.heap.size+1) 0 _ _ _ b6
 have r1:=cell_of_row _ (w.heap.size+1) 1 _ _ _ b6
 have f0:w6.frozen? ⟨w.heap.size+1,0,none⟩=false:=unfrozenB b6
 have f1:w6.frozen? ⟨w.heap.size+1,1,none⟩=false:=unfrozenB b6
 have hlR:w.heap.size+1 < w2.heap.size:=by omega
 have HK:=Lib.hid (fun (p q:Value)=>show ((w6.setCell ⟨w.heap.size+1,0,none⟩ p).setCell ⟨w.heap.size+1,1,none⟩ q).drew.cell? ⟨w2.heap.size,0,none⟩=some (.string W)∧((w6.setCell ⟨w.heap.size+1,0,none⟩ p).setCell ⟨w.heap.size+1,1,none⟩ q).drew.cell? ⟨w2.heap.size,1,none⟩=some (.int .i64 1) from
  ⟨(World.cell?_of_block (far2 w6 (w.heap.size+1) p q w2.heap.size (by omega))).trans y3,(World.cell?_of_block (far2 w6 (w.heap.size+1) p q w2.heap.size (by omega))).trans y4⟩)
 have E0:=Lib.hid e0
 have E1:=Lib.hid e1
 have HB:=Lib.hid b6
 have HY:=Lib.hid (show Below w.heap.size w w6 from hb0.trans (hy6.mono (by omega)))
 clear g0 g1 g2 g3 g4 y0 y1 y2 hx6 hy6 hb6 hd3 e0 e1 b6 hx2 hx3
 go_wp2_with fail
 go_region_held3 (fun W'=>W'.cell? ⟨w2.heap.size,0,none⟩=some (.string W)∧W'.cell? ⟨w2.heap.size,1,none⟩=some (.int .i64 1))
  (first
    | exact HK.out _ _
    | go_keep)
  (first
    | (go_at_call 54;refine (c_any1 b g 1 1 _ (by exact E1.out)).mono ?_;rintro e w' ⟨rfl,rfl⟩))
 go_wp2_with fail
 obtain ⟨k0,k1⟩:=put2 (.string W) (.int .i64 1) HB.out
 refine bodyPost_ret (v:=.tuple #[.agg #[.string W,.int .i64 1],.bool (decide (b=0))]) (by simp [results,Tryd.f33,go_sem,k0,k1]) rfl ?_
 exact ⟨rfl,(HY.out.drew.setCell (p:=⟨w.heap.size+1,0,none⟩) (by simp) _).setCell (p:=⟨w.heap.size+1,1,none⟩) (by simp) _⟩
set_option maxRecDepth 8000 in
set_option maxHeartbeats 4000000 in
theorem c_form2 (k:Nat) (W:ByteArray) (a b:Int) (hk:k<=4) (hA:(#[.string ⟨#[99,111,109,101]⟩,.int .i64 2,.string ⟨#[103,111]⟩,.int .i64 0,.string ⟨#[110,101,101,100]⟩,.int .i64 1,.string ⟨#[108,97,116,101,114]⟩,.int .i64 1,.string ⟨#[98,97,99,107]⟩,.int .i64 0]:Array Value)[k * 2]?=some (.string W)∧(#[.string ⟨#[99,111,109,101]⟩,.int .i64 2,.string ⟨#[103,111]⟩,.int .i64 0,.string ⟨#[110,101,101,100]⟩,.int .i64 1,.string ⟨#[108,97,116,101,114]⟩,.int .i64 1,.string ⟨#[98,97,99,107]⟩,.int .i64 0]:Array Value)[k * 2+1]?=some (.int .i64 2)) (w:World) :
  Calls Tryd.prog 33 #[.agg #[.int .i64 (k:Int),.int .i64 a,.int .i64 b]] w fun e w'=>e=.returned (.tuple #[.agg #[.string W,.int .i64 2],.bool (true)])∧Below w.heap.size w w':=by
 have hd:decide ((0:Int)<=(k:Int)∧(k:Int)<=4)=true:=decide_eq_true (by omega)
 have HD:=Lib.hid hd
 obtain ⟨w0,hw0⟩:∃ w0,(w.alloc (.cells #[.int .i64 (k:Int),.int .i64 a,.int .i64 b] 24)).alloc (.cells #[.string ⟨#[]⟩,.int .i64 0] 54)=w0:=⟨_,rfl⟩
 have hz0:w0.heap.size=w.heap.size+2:=by rw [<- hw0];simp
 have hb0:Below w.heap.size w w0:=by rw [<- hw0];exact ((Below.refl _ w).alloc (Nat.le_refl _) _).alloc (by simp) _
 have bD:w0.heap[w.heap.size]?=some (.cells #[.int .i64 (k:Int),.int .i64 a,.int .i64 b] 24 (0,0)):=by rw [<- hw0];exact (Below.heap_alloc _ _ _ (by simp)).trans (heap_alloc_new _ _)
 have bR:w0.heap[w.heap.size+1]?=some (.cells #[.string ⟨#[]⟩,.int .i64 0] 54 (0,0)):=by
  rw [<- hw0]
  have h:=heap_alloc_new (w.alloc (.cells #[.int .i64 (k:Int),.int .i64 a,.int .i64 b] 24)) (.cells #[.string ⟨#[]⟩,.int .i64 0] 54)
  rwa [show (w.alloc (.cells #[.int .i64 (k:Int),.int .i64 a,.int .i64 b] 24)).heap.size=w.heap.size+1 by simp] at h
 have HS:=Lib.hid (fun (W':World) (hb:Below (w.heap.size+1) w0 W')=>show W'.cell? ⟨w.heap.size,0,none⟩=some (.int .i64 (k:Int))∧W'.cell? ⟨w.heap.size,1,none⟩=some (.int .i64 a)∧W'.cell? ⟨w.heap.size,2,none⟩=some (.int .i64 b) from by
  have b:=(hb.block w.heap.size (by omega)).trans bD
  exact ⟨cell_of_row _ w.heap.size 0 _ _ _ b,cell_of_row _ w.heap.size 1 _ _ _ b,cell_of_row _ w.heap.size 2 _ _ _ b⟩)
 have p1:(0:Int)<=(k:Int):=by omega
 have p2:(k:Int) < 5:=by omega
 clear bD hk hd
 go_enter Tryd.func33,Tryd.ntmps33
 go_wp2_with fail
 refine (c_deedForms _).mono ?_
 rintro e w1 ⟨rfl,hb1⟩
 have hz1:=hb1.size
 have c0:=(HS.out (w1.alloc (.cells #[.string ⟨#[99,111,109,101]⟩,.int .i64 2,.string ⟨#[103,111]⟩,.int .i64 0,.string ⟨#[110,101,101,100]⟩,.int .i64 1,.string ⟨#[108,97,116,101,114]⟩,.int .i64 1,.string ⟨#[98,97,99,107]⟩,.int .i64 0] 66)) ((hb1.alloc hz1 _).mono (by omega))).1
 go_wp2_with fail
 refine (c_within _ _ _ _).mono ?_
 rintro e w' ⟨rfl,rfl⟩
 rw [HD.out]
 clear c0
 obtain ⟨w2,hw2⟩:∃ w2,w1.alloc (.cells #[.string ⟨#[99,111,109,101]⟩,.int .i64 2,.string ⟨#[103,111]⟩,.int .i64 0,.string ⟨#[110,101,101,100]⟩,.int .i64 1,.string ⟨#[108,97,116,101,114]⟩,.int .i64 1,.string ⟨#[98,97,99,107]⟩,.int .i64 0] 66)=w2:=⟨_,rfl⟩
 have hb2:Below w1.heap.size w1 w2:=by rw [<- hw2];exact (Below.refl _ w1).alloc (Nat.le_refl _) _
 have hz2:w2.heap.size=w1.heap.size+1:=by rw [<- hw2];simp
 have bF:w2.heap[w1.heap.size]?=some (.cells #[.string ⟨#[99,111,109,101]⟩,.int .i64 2,.string ⟨#[103,111]⟩,.int .i64 0,.string ⟨#[110,101,101,100]⟩,.int .i64 1,.string ⟨#[108,97,116,101,114]⟩,.int .i64 1,.string ⟨#[98,97,99,107]⟩,.int .i64 0] 66 (0,0)):=by rw [<- hw2];exact heap_alloc_new _ _
 have x0:=(cell_of_row _ w1.heap.size (k * 2) _ _ _ bF).trans hA.1
 have x1:=(cell_of_row _ w1.heap.size (k * 2+1) _ _ _ bF).trans hA.2
 have hx2:=hb1.trans (hb2.mono hz1)
 obtain ⟨c0,c1,c2⟩:=HS.out _ (hx2.mono (by omega))
 rw [hw2]
 clear bF hA hw2
 have hlt2:w1.heap.size < w2.heap.size:=by omega
 clear hz2
 go_wp2_with fail
 obtain ⟨w3,hw3⟩:∃ w3,w2.alloc (.cells #[.string W,.int .i64 2] 54)=w3:=⟨_,rfl⟩
 have hb3:Below w2.heap.size w2 w3:=by rw [<- hw3];exact (Below.refl _ w2).alloc (Nat.le_refl _) _
 have hz3:w2.heap.size < w3.heap.size:=by rw [<- hw3];simp
 have bG:w3.heap[w2.heap.size]?=some (.cells #[.string W,.int .i64 2] 54 (0,0)):=by rw [<- hw3];exact heap_alloc_new _ _
 rw [hw3]
 have hx3:=hx2.trans (hb3.mono (by omega))
 have HG:=Lib.hid (fun (W':World) (hb:Below w3.heap.size w3 W')=>show W'.cell? ⟨w.heap.size,0,none⟩=some (.int .i64 (k:Int))∧W'.cell? ⟨w.heap.size,1,none⟩=some (.int .i64 a)∧W'.cell? ⟨w.heap.size,2,none⟩=some (.int .i64 b)∧W'.cell? ⟨w2.heap.size,0,none⟩=some (.string W)∧W'.cell? ⟨w2.heap.size,1,none⟩=some (.int .i64 2) from by
  have b:=(hb.block w2.heap.size (by omega)).trans bG
  obtain ⟨s0,s1,s2⟩:=HS.out W' ((hx3.trans (hb.mono (by omega))).mono (by omega))
  exact ⟨s0,s1,s2,cell_of_row _ w2.heap.size 0 _ _ _ b,cell_of_row _ w2.heap.size 1 _ _ _ b⟩)
 obtain ⟨g0,g1,g2,g3,g4⟩:=HG.out _ (Below.refl _ w3)
 have hd3:Below w3.heap.size w3 w3.drew:=(Below.refl _ w3).drew
 clear bG hb2 hb3 hw0 hw3 c0 c1 c2 x0 x1
 go_region_held3 (fun W'=>W'.cell? ⟨w.heap.size,0,none⟩=some (.int .i64 (k:Int))∧W'.cell? ⟨w.heap.size,1,none⟩=some (.int .i64 a)∧W'.cell? ⟨w.heap.size,2,none⟩=some (.int .i64 b)∧W'.cell? ⟨w2.heap.size,0,none⟩=some (.string W)∧W'.cell? ⟨w2.heap.size,1,none⟩=some (.int .i64 2))
  (first
    | go_keep
    | exact HG.out _ hx6)
  (first
    | (go_at_call 34;refine (c_numbers _ _ _ _).mono ?_;rintro e w6 ⟨g,rfl,e0,e1,hg,hb6⟩;have hx6:Below w3.heap.size w3 w6:=hd3.trans hb6))
 obtain ⟨y0,y1,y2,y3,y4⟩:=HG.out _ hx6
 have hy6:=hx3.trans (hx6.mono (by omega))
 have b6:=(hy6.block (w.heap.size+1) (by omega)).trans bR
 have r0:=cell_of_row _ (w.heap.size+1) 0 _ _ _ b6
 have r1:=cell_of_row _ (w.heap.size+1) 1 _ _ _ b6
 have f0:w6.frozen? ⟨w.heap.size+1,0,none⟩=false:=unfrozenB b6
 have f1:w6.frozen? ⟨w.heap.size+1,1,none⟩=false:=unfrozenB b6
 have hlR:w.heap.size+1 < w2.heap.size:=by omega
 have HK:=Lib.hid (fun (p q:Value)=>show ((w6.setCell ⟨w.heap.size+1,0,none⟩ p).setCell ⟨w.heap.size+1,1,none⟩ q).drew.cell? ⟨w2.heap.size,0,none⟩=some (.string W)∧((w6.setCell ⟨w.heap.size+1,0,none⟩ p).setCell ⟨w.heap.size+1,1,none⟩ q).drew.cell? ⟨w2.heap.size,1,none⟩=some (.int .i64 2) from
  ⟨(World.cell?_of_block (far2 w6 (w.heap.size+1) p q w2.heap.size (by omega))).trans y3,(World.cell?_of_block (far2 w6 (w.heap.size+1) p q w2.heap.size (by omega))).trans y4⟩)
 have E0:=Lib.hid e0
 have E1:=Lib.hid e1
 have HB:=Lib.hid b6
 have HY:=Lib.hid (show Below w.heap.size w w6 from hb0.trans (hy6.mono (by omega)))
 clear g0 g1 g2 g3 g4 y0 y1 y2 hx6 hy6 hb6 hd3 e0 e1 b6 hx2 hx3
 go_wp2_with fail
 go_region_held3 (fun W'=>W'.cell? ⟨w2.heap.size,0,none⟩=some (.string W)∧W'.cell? ⟨w2.heap.size,1,none⟩=some (.int .i64 2))
  (first
    | exact HK.out _ _
    | go_keep)
  (first
    | (go_at_call 54;refine (c_any0 _ _ _).mono ?_;rintro e w' ⟨rfl,rfl⟩))
 go_wp2_with fail
 obtain ⟨k0,k1⟩:=put2 (.string W) (.int .i64 2) HB.out
 refine bodyPost_ret (v:=.tuple #[.agg #[.string W,.int .i64 2],.bool (true)]) (by simp [results,Tryd.f33,go_sem,k0,k1]) rfl ?_
 exact ⟨rfl,(HY.out.drew.setCell (p:=⟨w.heap.size+1,0,none⟩) (by simp) _).setCell (p:=⟨w.heap.size+1,1,none⟩) (by simp) _⟩
set_option maxRecDepth 8000 in
set_option maxHeartbeats 4000000 in
theorem c_formNo (k a b:Int) (hk:¬ (0<=k∧k<=4)) (w:World) :
  Calls Tryd.prog 33 #[.agg #[.int .i64 k,.int .i64 a,.int .i64 b]] w fun e w'=>(∃ f,e=.returned (.tuple #[f,.bool (formOk k a b)])∧(0<=k∧k<=4->f=formVal k)∧∃ W n,f=.agg #[.string W,.int .i64 n])∧Below w.heap.size w w':=by
 have HD:=Lib.hid (show decide ((0:Int)<=k∧k<=4)=false from decide_eq_false hk)
 have HV:=Lib.hid (formOk_no (a:=a) (b:=b) hk)
 have HK:=Lib.hid hk
 obtain ⟨w0,hw0⟩:∃ w0,(w.alloc (.cells #[.int .i64 k,.int .i64 a,.int .i64 b] 24)).alloc (.cells #[.string ⟨#[]⟩,.int .i64 0] 54)=w0:=⟨_,rfl⟩
 have hz0:w0.heap.size=w.heap.size+2:=by rw [<- hw0];simp
 have hb0:Below w.heap.size w w0:=by rw [<- hw0];exact ((Below.refl _ w).alloc (Nat.le_refl _) _).alloc (by simp) _
 have bD:w0.heap[w.heap.size]?=some (.cells #[.int .i64 k,.int .i64 a,.int .i64 b] 24 (0,0)):=by rw [<- hw0];exact (Below.heap_alloc _ _ _ (by simp)).trans (heap_alloc_new _ _)
 have bR:w0.heap[w.heap.size+1]?=some (.cells #[.string ⟨#[]⟩,.int .i64 0] 54 (0,0)):=by
  rw [<- hw0]
  have h:=heap_alloc_new (w.alloc (.cells #[.int .i64 k,.int .i64 a,.int .i64 b] 24)) (.cells #[.string ⟨#[]⟩,.int .i64 0] 54)
  rwa [show (w.alloc (.cells #[.int .i64 k,.int .i64 a,.int .i64 b] 24)).heap.size=w.heap.size+1 by simp] at h
 clear hk
 go_enter Tryd.func33,Tryd.ntmps33
 go_wp2_with fail
 refine (c_deedForms _).mono ?_
 rintro e w1 ⟨rfl,hb1⟩
 have hz1:=hb1.size
 have hx:=hb1.alloc hz1 (.cells #[.string ⟨#[99,111,109,101]⟩,.int .i64 2,.string ⟨#[103,111]⟩,.int .i64 0,.string ⟨#[110,101,101,100]⟩,.int .i64 1,.string ⟨#[108,97,116,101,114]⟩,.int .i64 1,.string ⟨#[98,97,99,107]⟩,.int .i64 0] 66)
 have c0:=cell_of_row _ w.heap.size 0 _ _ _ ((hx.block w.heap.size (by omega)).trans bD)
 go_wp2_with fail
 refine (c_within _ _ _ _).mono ?_
 rintro e w' ⟨rfl,rfl⟩
 rw [HD.out]
 obtain ⟨w2,hw2⟩:∃ w2,w1.alloc (.cells #[.string ⟨#[99,111,109,101]⟩,.int .i64 2,.string ⟨#[103,111]⟩,.int .i64 0,.string ⟨#[110,101,101,100]⟩,.int .i64 1,.string ⟨#[108,97,116,101,114]⟩,.int .i64 1,.string ⟨#[98,97,99,107]⟩,.int .i64 0] 66)=w2:=⟨_,rfl⟩
 rw [hw2]
 rw [hw2] at hx
 clear hw2 c0
 have b6:=(hx.block (w.heap.size+1) (by omega)).trans bR
 have r0:=cell_of_row _ (w.heap.size+1) 0 _ _ _ b6
 have r1:=cell_of_row _ (w.heap.size+1) 1 _ _ _ b6
 have f0:w2.frozen? ⟨w.heap.size+1,0,none⟩=false:=unfrozenB b6
 have f1:w2.frozen? ⟨w.heap.size+1,1,none⟩=false:=unfrozenB b6
 go_wp2_with fail
 obtain ⟨k0,k1⟩:=put2 (.string ⟨#[]⟩) (.int .i64 0) b6
 refine bodyPost_ret (v:=.tuple #[.agg #[.string ⟨#[]⟩,.int .i64 0],.bool false]) (by simp [results,Tryd.f33,go_sem,k0,k1]) rfl ?_
 exact ⟨⟨_,by rw [HV.out],fun h=>absurd h HK.out,_,_,rfl⟩,((hb0.trans (hx.mono (by omega))).setCell (p:=⟨w.heap.size+1,0,none⟩) (by simp) _).setCell (p:=⟨w.heap.size+1,1,none⟩) (by simp) _⟩
theorem c_form (k a b:Int) (w:World) :
  Calls Tryd.prog 33 #[.agg #[.int .i64 k,.int .i64 a,.int .i64 b]] w fun e w'=>(∃ f,e=.returned (.tuple #[f,.bool (formOk k a b)])∧(0<=k∧k<=4->f=formVal k)∧∃ W n,f=.agg #[.string W,.int .i64 n])∧Below w.heap.size w w':=by
 by_cases hk:0<=k∧k<=4
 ·have hkk:k=0∨k=1∨k=2∨k=3∨k=4:=by omega
  rcases hkk with rfl | rfl | rfl | rfl | rfl
  ·exact (c_form2 0 _ a b (by omega) ⟨rfl,rfl⟩ w).mono fun e w' h=>⟨⟨formVal 0,by rw [h.1];simp [formOk];rfl,fun _=>rfl,_,_,rfl⟩,h.2⟩
  ·exact (c_form0 1 _ a b (by omega) ⟨rfl,rfl⟩ w).mono fun e w' h=>⟨⟨formVal 1,by rw [h.1];simp [formOk];rfl,fun _=>rfl,_,_,rfl⟩,h.2⟩
  ·exact (c_form1 2 _ a b (by omega) ⟨rfl,rfl⟩ w).mono fun e w' h=>⟨⟨formVal 2,by rw [h.1];simp [formOk];rfl,fun _=>rfl,_,_,rfl⟩,h.2⟩
  ·exact (c_form1 3 _ a b (by omega) ⟨rfl,rfl⟩ w).mono fun e w' h=>⟨⟨formVal 3,by rw [h.1];simp [formOk];rfl,fun _=>rfl,_,_,rfl⟩,h.2⟩
  ·exact (c_form0 4 _ a b (by omega) ⟨rfl,rfl⟩ w).mono fun e w' h=>⟨⟨formVal 4,by rw [h.1];simp [formOk];rfl,fun _=>rfl,_,_,rfl⟩,h.2⟩
 ·exact c_formNo k a b hk w
end Go.Proofs.YticccnkanihpnaaDoor
namespace Go.Proofs.YticccnkanihpnaaDoor
set_option linter.unusedVariables false
open Go.RowKit
theorem indexC_none {c:UInt8}:∀ {s:List UInt8},c ∉ s->Lib.index s [c]=-1:=by
 intro s
 induction s with
 | nil=>intro _;rfl
 | cons b l ih =>
  intro h
  have h1:¬ c=b:=fun e=>h (by simp [e])
  have h2:c ∉ l:=fun e=>h (by simp [e])
  simp [Lib.index,List.isPrefixOf,ih h2,h1]
theorem indexC_at {c:UInt8}:∀ {a:List UInt8} (b:List UInt8),c ∉ a->Lib.index (a++c::b) [c]=a.length:=by
 intro a
 induction a with
 | nil=>intro b _;simp [Lib.index,List.isPrefixOf]
 | cons x l ih =>
  intro b h
  have h1:¬ c=x:=fun e=>h (by simp [e])
  have h2:c ∉ l:=fun e=>h (by simp [e])
  have e:=ih b h2
  have hne:¬ ((l.length:Int)=-1):=by omega
  simp [Lib.index,List.isPrefixOf,e,h1,hne]
theorem split_at (c:UInt8) (s:List UInt8):c ∉ s∨∃ a b,s=a++c::b∧c ∉ a:=by
 induction s with
 | nil=>exact .inl (by simp)
 | cons x l ih =>
  by_cases h:c=x
  ·exact .inr ⟨[],l,by simp [h],by simp⟩
  ·rcases ih with h2 | ⟨a,b,e,ha⟩
   ·exact .inl (by simp [h,h2])
   ·exact .inr ⟨x::a,b,by simp [e],by simp [h,ha]⟩
theorem cutL_none {c:UInt8} {s:List UInt8} (h:c ∉ s):cutL c s=[s]:=by
 have:=cutS_word (sep:=c) [] s h
 simp only [List.nil_append] at this
 rw [cutL,this]
 simp [cutS]
theorem cutS_fold (c:UInt8):∀ (s:List UInt8) (p:List (List UInt8)) (w:List UInt8),s.foldl (fun s x=>if x=c then (s.1++[s.2],[]) else (s.1,s.2++[x])) (p,w)=(p++((s.foldl (fun s x=>if x=c then (s.1++[s.2],[]) else (s.1,s.2++[x])) ([],w)).1),(s.foldl (fun s x=>if x=c then (s.1++[s.2],[]) else (s.1,s.2++[x])) ([],w)).2):=by
 intro s
 induction s with
 | nil=>intro p w;simp
 | cons x l ih =>
  intro p w
  simp only [List.foldl_cons]
  by_cases h:x=c
  ·simp only [if_pos h]
   rw [ih (p++[w]),ih ([]++[w])]
   simp
  ·simp only [if_neg h]
   rw [ih p]
theorem cutL_at {c:UInt8} {a:List UInt8} (b:List UInt8) (h:c ∉ a):cutL c (a++c::b)=a::cutL c b:=by
 have h1:=cutS_word (sep:=c) [] a h
 simp only [List.nil_append] at h1
 have h2:cutS c (a++[c])=([a],[]):=by rw [cutS_snoc,if_pos rfl,h1];simp [cutS]
 have h3:cutS c (a++c::b)=([a]++(cutS c b).1,(cutS c b).2):=by
  have e:a++c::b=(a++[c])++b:=by simp
  rw [e]
  show ((a++[c])++b).foldl _ _=_
  rw [List.foldl_append]
  have h2':(a++[c]).foldl (fun s x=>if x=c then (s.1++[s.2],[]) else (s.1,s.2++[x])) ([],[])=([a],[]):=h2
  rw [h2',cutS_fold]
  rfl
 rw [cutL,h3,cutL]
 simp
theorem decFrom_val:∀ (l:List UInt8) (acc:Nat),l.all isD=true->Lib.decFrom acc l=some (l.foldl (fun n c=>10 * n+(c.toNat - 48)) acc):=by
 intro l
 induction l with
 | nil=>intro acc _;rfl
 | cons b r ih =>
  intro acc h
  simp only [List.all_cons,Bool.and_eq_true] at h
  have hd:=isD_nat h.1
  rw [Lib.decFrom,Lib.digitVal,if_pos hd]
  simp only [List.foldl_cons]
  rw [ih _ h.2,show acc * 10+(b.toNat - 48)=10 * acc+(b.toNat - 48) by omega]
theorem atoi_val {l:List UInt8} (hl:l≠[]) (h:l.all isD=true):Lib.atoi l=some (valN l:Int):=by
 cases l with
 | nil=>exact absurd rfl hl
 | cons b r =>
  have hd:isD b=true:=by simp only [List.all_cons,Bool.and_eq_true] at h;exact h.1
  have hn:=isD_nat hd
  have h1:(b == 45)=false:=by
   cases hb:(b == 45) with
   | false=>rfl
   | true=>rw [eq_of_beq hb] at hn;simp at hn
  have h2:(b == 43)=false:=by
   cases hb:(b == 43) with
   | false=>rfl
   | true=>rw [eq_of_beq hb] at hn;simp at hn
  rw [Lib.atoi,h1,h2]
  simp only [Bool.false_eq_true,if_false]
  rw [Lib.decNat,if_neg (by simp),decFrom_val _ 0 h]
  rfl
end Go.Proofs.YticccnkanihpnaaDoor
namespace Go.Proofs.YticccnkanihpnaaDoor
set_option linter.unusedVariables false
open Go.RowKit
theorem splitK_cut (c:UInt8):∀ (m:Nat) (s:List UInt8),s.length<=m->Lib.splitK [c] 0 (Lib.count s [c]) s=cutL c s:=by
 intro m
 induction m with
 | zero =>
  intro s h
  have:s=[]:=List.eq_nil_of_length_eq_zero (by omega)
  subst this
  rw [cutL_none (by simp),Lib.count_miss (by simp [Lib.index])]
  rfl
 | succ m ih =>
  intro s h
  rcases split_at c s with h1 | ⟨a,b,rfl,ha⟩
  ·rw [cutL_none h1,Lib.count_miss (indexC_none h1)];rfl
  ·have hi:=indexC_at b ha
   have e:(a++c::b).drop (a.length+[c].length)=b:=by simp
   have e2:(a++c::b).take (a.length+0)=a:=by simp
   rw [cutL_at b ha,Lib.count_hit (by simp) hi,e,Nat.add_comm,Lib.splitK,if_neg (by rw [hi];simp),hi,Int.toNat_natCast,e,e2,ih b (by simp at h;omega)]
theorem splitB_cut (c:UInt8) (s:ByteArray):(Lib.splitB ⟨#[c]⟩ 0 (Lib.countB s ⟨#[c]⟩) s).map (·.data.toList)=cutL c s.data.toList:=by
 rw [Lib.splitB_data]
 exact splitK_cut c _ _ (Nat.le_refl _)
theorem splitB_len (c:UInt8) (s:ByteArray):Lib.countB s ⟨#[c]⟩+1=(cutL c s.data.toList).length:=by
 rw [<- splitB_cut,List.length_map,Lib.splitB_all _ (by simp [ByteArray.size]) 0 _ s rfl]
def uncut (c:UInt8):List (List UInt8)->List UInt8
 | []=>[]
 | [x]=>x
 | x::y::r=>x++c::uncut c (y::r)
theorem cutL_ne (c:UInt8) (s:List UInt8):cutL c s≠[]:=by simp [cutL]
theorem uncut_cons (c:UInt8) (x:List UInt8) {r:List (List UInt8)} (h:r≠[]):uncut c (x::r)=x++c::uncut c r:=by
 cases r with
 | nil=>exact absurd rfl h
 | cons y r=>rfl
theorem uncut_cut (c:UInt8):∀ (m:Nat) (s:List UInt8),s.length<=m->uncut c (cutL c s)=s:=by
 intro m
 induction m with
 | zero =>
  intro s h
  have:s=[]:=List.eq_nil_of_length_eq_zero (by omega)
  subst this
  rw [cutL_none (by simp)];rfl
 | succ m ih =>
  intro s h
  rcases split_at c s with h1 | ⟨a,b,rfl,ha⟩
  ·rw [cutL_none h1];rfl
  ·rw [cutL_at b ha,uncut_cons c a (cutL_ne c b),ih b (by simp at h;omega)]
def dig2 (l:List UInt8):Bool:=digOk l && decide (l.length<=2)
theorem dig2_num {l:List UInt8} (h:dig2 l=true):numL (valN l)=l∧valN l<=99:=by
 simp only [dig2,Bool.and_eq_true,decide_eq_true_eq] at h
 obtain ⟨h1,h2,h3⟩:=digOk_parts h.1
 have e:=num_of _ l rfl (by intro e;subst e;simp at h1) h3 h2
 refine ⟨e,Nat.le_of_not_lt fun hgt=>?_⟩
 have hl:=h.2
 rw [<- e,numL_more (by omega),numL_more (by omega)] at hl
 have:=numL_ne (valN l / 10 / 10)
 simp at hl
 rw [hl] at this;simp at this
theorem num_dig2 {n:Nat} (h:n<=99):dig2 (numL n)=true:=by
 have h1:=numL_ne n
 have h2:=numL_len 1 n (by simpa using show n < 100 by omega)
 have h4:=numL_lead n
 have:digOk (numL n)=true:=by
  simp only [digOk,Bool.and_eq_true,decide_eq_true_eq,numL_all n,and_true,Bool.not_eq_true',Bool.and_eq_false_iff,decide_eq_false_iff_not]
  refine ⟨by omega,?_⟩
  by_cases h5:1 < (numL n).length
  ·right
   have:=h4 h5
   cases hx:(numL n).head? with
   | none=>rfl
   | some c=>rw [hx] at this;simpa using this
  ·exact .inl h5
 simp [dig2,this];omega
def wordJ:Nat->List UInt8
 | 0=>wCome
 | 1=>wGo
 | 2=>wNeed
 | 3=>wLater
 | _=>wBack
def numJ:Nat->Nat
 | 0=>2
 | 1=>0
 | 2=>1
 | 3=>1
 | _=>0
def deedJ (j:Nat) (r:List (List UInt8)):DV:=⟨j,(valN (r.getD 0 []):Int),(valN (r.getD 1 []):Int)⟩
theorem wordJ_inj {i j:Nat} (hi:i < 5) (hj:j < 5) (h:wordJ i=wordJ j):i=j:=by
 have hi':i=0∨i=1∨i=2∨i=3∨i=4:=by omega
 have hj':j=0∨j=1∨j=2∨j=3∨j=4:=by omega
 rcases hi' with rfl | rfl | rfl | rfl | rfl <;> rcases hj' with rfl | rfl | rfl | rfl | rfl <;> first | rfl | (exact absurd h (by decide))
theorem deed_cut {d:DV} (h:deedL d≠[]):∃ j r,j < 5∧cutL 32 (deedL d)=wordJ j::r∧r.length=numJ j∧r.all dig2=true∧d=deedJ j r:=by
 rcases deed_ways d with h0 | ⟨h1,h2,h3,e⟩ | ⟨h1,h2,h3,e⟩ | ⟨h1,h2,h3,e⟩ | ⟨h1,e⟩ | ⟨h1,e⟩
 ·exact absurd h0 h
 ·refine ⟨0,[numL d.a.toNat,numL d.b.toNat],by omega,by rw [e,cut_three _ _ _ (by decide) (numL_no32 _) (numL_no32 _)];rfl,rfl,?_,?_⟩
  ·simp [num_dig2 (show d.a.toNat<=99 by omega),num_dig2 (show d.b.toNat<=99 by omega)]
  ·obtain ⟨k,a,b⟩:=d
   simp only at h1 h2 h3
   simp [deedJ,numL_val];omega
 ·refine ⟨2,[numL d.a.toNat],by omega,by rw [e,cut_two _ _ (by decide) (numL_no32 _)];rfl,rfl,?_,?_⟩
  ·simp [num_dig2 (show d.a.toNat<=99 by omega)]
  ·obtain ⟨k,a,b⟩:=d
   simp only at h1 h2 h3
   have e0:(valN ([numL a.toNat].getD 1 []):Int)=0:=rfl
   have e1:(valN ([numL a.toNat].getD 0 []):Int)=a:=by rw [List.getD_cons_zero,numL_val];omega
   simp only [deedJ,e0,e1,DV.mk.injEq];exact ⟨h1,trivial,h3⟩
 ·refine ⟨3,[numL d.a.toNat],by omega,by rw [e,cut_two _ _ (by decide) (numL_no32 _)];rfl,rfl,?_,?_⟩
  ·simp [num_dig2 (show d.a.toNat<=99 by omega)]
  ·obtain ⟨k,a,b⟩:=d
   simp only at h1 h2 h3
   have e0:(valN ([numL a.toNat].getD 1 []):Int)=0:=rfl
   have e1:(valN ([numL a.toNat].getD 0 []):Int)=a:=by rw [List.getD_cons_zero,numL_val];omega
   simp only [deedJ,e0,e1,DV.mk.injEq];exact ⟨h1,trivial,h3⟩
 ·exact ⟨1,[],by omega,by rw [e,cutL_none (by decide)];rfl,rfl,rfl,by rw [h1];rfl⟩
 ·exact ⟨4,[],by omega,by rw [e,cutL_none (by decide)];rfl,rfl,rfl,by rw [h1];rfl⟩
theorem deed_of {s:List UInt8} {j:Nat} {r:List (List UInt8)} (hj:j < 5) (hc:cutL 32 s=wordJ j::r) (hl:r.length=numJ j) (hd:r.all dig2=true):deedL (deedJ j r)=s∧s≠[]:=by
 have hs:=uncut_cut 32 _ s (Nat.le_refl _)
 rw [hc] at hs
 have hj':j=0∨j=1∨j=2∨j=3∨j=4:=by omega
 rcases hj' with rfl | rfl | rfl | rfl | rfl
 ·obtain ⟨x,y,rfl⟩:∃ x y,r=[x,y]:=by
   match r,hl with
   | [x,y],_=>exact ⟨x,y,rfl⟩
  simp only [List.all_cons,List.all_nil,Bool.and_eq_true,and_true] at hd
  obtain ⟨e1,l1⟩:=dig2_num hd.1
  obtain ⟨e2,l2⟩:=dig2_num hd.2
  rw [<- hs]
  refine ⟨?_,by simp [uncut,wordJ,wCome]⟩
  simp only [deedJ,deedL,List.getD_cons_zero,List.getD_cons_succ]
  rw [if_pos ⟨rfl,by omega,by omega⟩,Int.toNat_natCast,Int.toNat_natCast,e1,e2]
  simp [uncut,wordJ]
 ·obtain rfl:r=[]:=List.eq_nil_of_length_eq_zero hl
  rw [<- hs]
  exact ⟨by decide,by decide⟩
 ·obtain ⟨x,rfl⟩:∃ x,r=[x]:=by
   match r,hl with
   | [x],_=>exact ⟨x,rfl⟩
  simp only [List.all_cons,List.all_nil,Bool.and_true] at hd
  obtain ⟨e1,l1⟩:=dig2_num hd
  rw [<- hs]
  refine ⟨?_,by simp [uncut,wordJ,wNeed]⟩
  have e0:(valN ([x].getD 1 []):Int)=0:=rfl
  simp only [deedJ,e0,List.getD_cons_zero]
  rw [deedL,if_neg (by simp),if_pos ⟨rfl,by simp only;omega,rfl⟩,Int.toNat_natCast,e1]
  simp [uncut,wordJ]
 ·obtain ⟨x,rfl⟩:∃ x,r=[x]:=by
   match r,hl with
   | [x],_=>exact ⟨x,rfl⟩
  simp only [List.all_cons,List.all_nil,Bool.and_true] at hd
  obtain ⟨e1,l1⟩:=dig2_num hd
  rw [<- hs]
  refine ⟨?_,by simp [uncut,wordJ,wLater]⟩
  have e0:(valN ([x].getD 1 []):Int)=0:=rfl
  simp only [deedJ,e0,List.getD_cons_zero]
  rw [deedL,if_neg (by simp),if_neg (by simp),if_pos ⟨rfl,by simp only;omega,rfl⟩,Int.toNat_natCast,e1]
  simp [uncut,wordJ]
 ·obtain rfl:r=[]:=List.eq_nil_of_length_eq_zero hl
  rw [<- hs]
  exact ⟨by decide,by decide⟩
theorem read_yes {s:List UInt8} {j:Nat} {r:List (List UInt8)} (hj:j < 5) (hc:cutL 32 s=wordJ j::r) (hl:r.length=numJ j) (hd:r.all dig2=true):readD s=some (deedJ j r):=by
 obtain ⟨e,hne⟩:=deed_of hj hc hl hd
 have:=deed_read (deedJ j r) (by rw [e];exact hne)
 rwa [e] at this
theorem read_bad {s:List UInt8} {j:Nat} {r:List (List UInt8)} (hj:j < 5) (hc:cutL 32 s=wordJ j::r) (hn:¬ (r.length=numJ j∧r.all dig2=true)):readD s=none:=by
 cases h:readD s with
 | none=>rfl
 | some d =>
  obtain ⟨e,hne⟩:=read_text h
  subst e
  obtain ⟨i,r',hi,hc',hl',hd',-⟩:=deed_cut hne
  rw [hc] at hc'
  injection hc' with e1 e2
  have:=wordJ_inj hj hi e1
  subst this e2
  exact absurd ⟨hl',hd'⟩ hn
theorem read_none {s x:List UInt8} {r:List (List UInt8)} (hc:cutL 32 s=x::r) (hn:∀ j,j < 5->x≠wordJ j):readD s=none:=by
 cases h:readD s with
 | none=>rfl
 | some d =>
  obtain ⟨e,hne⟩:=read_text h
  subst e
  obtain ⟨i,r',hi,hc',-,-,-⟩:=deed_cut hne
  rw [hc] at hc'
  injection hc' with e1 e2
  exact absurd e1 (hn i hi)
theorem cut_cons (c:UInt8) (s:List UInt8):∃ x r,cutL c s=x::r:=by
 cases h:cutL c s with
 | nil=>exact absurd h (cutL_ne c s)
 | cons x r=>exact ⟨x,r,rfl⟩
theorem cut_len {c:UInt8} {s:List UInt8}:∀ x ∈ cutL c s,x.length<=s.length:=by
 have key:∀ (ws:List (List UInt8)) (x:List UInt8),x ∈ ws->x.length<=(uncut c ws).length:=by
  intro ws
  induction ws with
  | nil=>intro x h;cases h
  | cons y r ih =>
   intro x h
   cases r with
   | nil=>rcases List.mem_cons.1 h with rfl | h
          ·exact Nat.le_refl _
          ·cases h
   | cons z r =>
    rw [uncut_cons c y (by simp),List.length_append,List.length_cons]
    rcases List.mem_cons.1 h with rfl | h
    ·omega
    ·have:=ih x h;omega
 intro x h
 have:=key _ x h
 rwa [uncut_cut c _ s (Nat.le_refl _)] at this
end Go.Proofs.YticccnkanihpnaaDoor
namespace Go.Proofs.YticccnkanihpnaaDoor
set_option linter.unusedVariables false
open Go.RowKit
theorem Ss.take {w:World} {B:Nat} {A:Option Addr} {L:List (List UInt8)} (h:Ss w B A L) (m:Nat):Ss w B A (L.take m):=by
 intro hn
 rw [List.length_take] at hn
 obtain ⟨b,off,rfl,hlt,hc⟩:=h (by omega)
 refine ⟨b,off,rfl,hlt,fun k hk=>?_⟩
 rw [List.length_take] at hk
 have e:ZS (L.take m) k=ZS L k:=by simp [ZS,List.getD_eq_getElem?_getD,List.getElem?_take_of_lt (show k < m by omega)]
 rw [e]
 exact hc k (by omega)
theorem Ss.drop {w:World} {B b off:Nat} {L:List (List UInt8)} (h:Ss w B (some ⟨b,off,none⟩) L) (m:Nat):Ss w B (some ⟨b,off+m,none⟩) (L.drop m):=by
 intro hn
 rw [List.length_drop] at hn
 obtain ⟨b2,off2,e,hlt,hc⟩:=h (by omega)
 injection e with e
 injection e with e1 e2 _
 subst e1 e2
 refine ⟨b,off+m,rfl,hlt,fun k hk=>?_⟩
 rw [List.length_drop] at hk
 have e:ZS (L.drop m) k=ZS L (m+k):=by simp [ZS,List.getD_eq_getElem?_getD]
 rw [e,show off+m+k=off+(m+k) by omega]
 exact hc (m+k) (by omega)
section
variable {w:World}
end
end Go.Proofs.YticccnkanihpnaaDoor

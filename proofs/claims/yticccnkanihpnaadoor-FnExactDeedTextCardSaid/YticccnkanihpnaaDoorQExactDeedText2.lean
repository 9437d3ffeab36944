import Derived.Test.YticccnkanihpnaaDoorQExactDeedText1
import Derived.RegionCalls
import Derived.Lib.SliceRun
import Derived.Shelf.Strings.Builder1
import Derived.Shelf.Strings.BuilderF
import Derived.Shelf.Strings.BuilderK
import Derived.Shelf.Strconv.Atoi
import Derived.Shelf.Strconv.Itoa0
import Derived.Shelf.Strconv.Itoa1
import Derived.Shelf.LaysM
import Derived.Shelf.Strconv.Itoa2
import Derived.Shelf.Strconv.Itoa3
import Derived.Shelf.Strconv.AtoiErrFast
import Derived.Shelf.Strconv.ParseIntEmpty
import Derived.Shelf.Strconv.AtoiFail
import Derived.Shelf.Strconv.Clone
import Derived.Shelf.Strconv.SyntaxError
import Derived.Shelf.LaysC
import Derived.Shelf.Strconv.ToError
import Derived.Shelf.Strconv.AtoiErr
import Derived.Shelf.Strconv.ErrVar
import Derived.Shelf.Strconv.Lower
import Derived.Shelf.Strconv.ParseUint10
import Derived.Shelf.Strconv.ParseUint10Empty
import Derived.Shelf.Strconv.ParseUint10Any
import Derived.Shelf.Strconv.ParseInt10
import Derived.Shelf.Strconv.AtoiLong
import Derived.Shelf.Strconv.AtoiInnerAll
import Derived.Shelf.Strconv.RangeError
import Derived.Shelf.Strconv.ToErrorRange
import Derived.Shelf.Strconv.AtoiAll
import Derived.Shelf.Strconv.ErrVarAll
import Derived.Shelf.Strings.Search1
import Derived.Shelf.Strings.Search2
import Derived.Shelf.Strings.Search3
import Derived.Shelf.Strings.Cut
import Derived.Shelf.Strings.Count
import Derived.Shelf.Strings.Shaped
import Derived.Shelf.Strings.Split
import Derived.Shelf.Strings.SplitShaped
import Derived.Shelf.Unicode.DecodeSlow
import Derived.Test.YticccnkanihpnaaDoorProg
import Derived.Lib.IndexMore
import Derived.Lib.Join
import Derived.Lib.Atoi
import Derived.Lib.SplitLaws
import Derived.Lib.AtoiTie
import Derived.WalkKit
import Derived.Laws.CopyRow
import Derived.Laws.IdiomCopy
import Derived.Deep.Upon
import Derived.OwnWalk
import Derived.Laws.Tables
import Derived.Deep.CutRange
import Derived.Deep.CutBlock
import Derived.ArgAppend
import Derived.ProofKit
import Derived.OpenShut
import Derived.Deep.SlicePairs
import Derived.Lib.SmallJoins
namespace Go.Proofs.YticccnkanihpnaaDoor
set_option linter.unusedVariables false
open Go.RowKit
attribute [local go_sem ↓] Go.wp_at_zero Go.wp_at_succ
def formVal (k:Int):Value :=
 if k=0 then .agg #[.string ⟨#[99,111,109,101]⟩,.int .i64 2] else if k=1 then .agg #[.string ⟨#[103,111]⟩,.int .i64 0] else if k=2 then .agg #[.string ⟨#[110,101,101,100]⟩,.int .i64 1]
 else if k=3 then .agg #[.string ⟨#[108,97,116,101,114]⟩,.int .i64 1] else .agg #[.string ⟨#[98,97,99,107]⟩,.int .i64 0]
def formOk (k a b:Int):Bool:=decide (k=0) || (decide (k=1) && decide (a=0) && decide (b=0)) || (decide (k=2) && decide (b=0)) || (decide (k=3) && decide (b=0)) || (decide (k=4) && decide (a=0) && decide (b=0))
set_option maxHeartbeats 1000000 in
theorem c_deedForms (w:World) :
  Calls Tryd.prog 41 #[] w fun e w'=>e=.returned (.agg #[.string ⟨#[99,111,109,101]⟩,.int .i64 2,.string ⟨#[103,111]⟩,.int .i64 0,.string ⟨#[110,101,101,100]⟩,.int .i64 1,.string ⟨#[108,97,116,101,114]⟩,.int .i64 1,.string ⟨#[98,97,99,107]⟩,.int .i64 0])∧Below w.heap.size w w':=by
 go_enter Tryd.func41,Tryd.ntmps41
 go_wp2_with fail
 exact bodyPost_ret (v:=.agg #[.string ⟨#[99,111,109,101]⟩,.int .i64 2,.string ⟨#[103,111]⟩,.int .i64 0,.string ⟨#[110,101,101,100]⟩,.int .i64 1,.string ⟨#[108,97,116,101,114]⟩,.int .i64 1,.string ⟨#[98,97,99,107]⟩,.int .i64 0]) (by simp [results,Tryd.f41,go_sem]) rfl ⟨rfl,by (repeat (first | exact rfl | exact Below.refl _ _ | (with_reducible refine Below.drew ?_) | (with_reducible refine Below.drewN ?_ _) | (with_reducible refine Below.alloc ?_ ?_ _) | (with_reducible refine Below.setCell ?_ ?_ _) | (show _<=_;focus (first | omega | (simp;done) | (simp;omega)))))⟩
set_option maxHeartbeats 1000000 in
theorem c_numbers (k a b:Int) (w:World) :
  Calls Tryd.prog 34 #[.agg #[.int .i64 k,.int .i64 a,.int .i64 b]] w fun e w'=>∃ g,e=.returned (.slice (some ⟨g,0,none⟩) 2 2)∧w'.cell? ⟨g,0,none⟩=some (.int .i64 a)∧w'.cell? ⟨g,1,none⟩=some (.int .i64 b)∧g < w'.heap.size∧Below w.heap.size w w':=by
 go_enter Tryd.func34,Tryd.ntmps34
 go_wp2_with fail
 go_ret
 exact ⟨_,rfl,by simp [go_sem],by simp [go_sem],by simp,by (repeat (first | exact rfl | exact Below.refl _ _ | (with_reducible refine Below.drew ?_) | (with_reducible refine Below.drewN ?_ _) | (with_reducible refine Below.alloc ?_ ?_ _) | (with_reducible refine Below.setCell ?_ ?_ _) | (show _<=_;focus (first | omega | (simp;done) | (simp;omega)))))⟩
theorem c_isNot0 (x:Int) (w:World):Calls Tryd.prog 55 #[.int .i64 x] w fun e w'=>e=.returned (.bool (!decide (x=0)))∧w=w':=by
 go_enter Tryd.func55,Tryd.ntmps55
 by_cases h:x=0
 ·subst h
  go_wp2_with fail
  go_ret
  exact ⟨rfl,rfl⟩
 ·have h2:(x == 0)=false:=beq_eq_false_iff_ne.2 h
  have h3:(x != 0)=true:=by simp [bne,h2]
  go_wp2_with fail
  go_ret
  exact ⟨by simp [h],rfl⟩
set_option maxHeartbeats 2000000 in
theorem c_indexNot0 (xs:List Int) (A:Option Addr) (B c:Nat) (w:World) (hA:Is w B A xs) (hn:xs.length<=140737488351232) :
  Calls Tryd.prog 63 #[.slice A xs.length c,.func (.func 55) #[] #[]] w fun e w'=>(∃ i:Int,e=.returned (.int .i64 i)∧decide (0<=i)=!xs.all (fun x=>decide (x=0)))∧w=w':=by
 go_enter Tryd.func63,Tryd.ntmps63
 go_wp2_with fail
 go_loopw [8] (fun i wr=>∃ k:Nat,k<=xs.length∧i=.int .i64 k∧Hid (∀ j,j < k->Z xs j=0)∧wr=w) (fun i _=>xs.length - (intOf i).toNat)
 case atStart=>exact ⟨0,by omega,rfl,Lib.hid (fun j hj=>by omega),rfl⟩
 case round =>
  obtain ⟨k,hk,rfl,HN,rfl⟩:=hrel
  by_cases hlt:k < xs.length
  ·obtain ⟨gb,go,rfl,hgb,hgc⟩:=hA (by omega)
   have c0:=hgc k hlt
   have p1:(0:Int)<=(k:Int):=by omega
   have p2:(k:Int) < (xs.length:Int):=by omega
   clear hgc
   by_cases hz:Z xs k=0
   ·have hd:decide (Z xs k=0)=true:=decide_eq_true hz
    have HB:=Lib.hid (show ∀ j,j < k+1->Z xs j=0 from fun j hj=>by
     rcases Nat.lt_succ_iff_lt_or_eq.1 hj with h | rfl
     ·exact HN.out j h
     ·exact hz)
    clear hz
    go_wp2_with fail
    refine (c_isNot0 _ _).mono ?_
    rintro e w1 ⟨rfl,rfl⟩
    rw [hd]
    go_wp2_with fail
    go_roundw
    case rel=>exact ⟨k+1,by omega,by go_num,HB,trivial⟩
    case measure=>simp [intOf];omega
   ·have hd:decide (Z xs k=0)=false:=decide_eq_false hz
    have HB:=Lib.hid (show decide ((0:Int)<=(k:Int))=!xs.all (fun x=>decide (x=0)) by
     cases h:xs.all (fun x=>decide (x=0)) with
     | true =>
      have:=List.all_eq_true.1 h _ (List.getElem_mem hlt)
      have e:Z xs k=xs[k]:=by simp [Z,hlt]
      rw [e] at hz
      simp at this
      exact absurd this hz
     | false=>simp)
    clear hz
    go_wp2_with fail
    refine (c_isNot0 _ _).mono ?_
    rintro e w1 ⟨rfl,rfl⟩
    rw [hd]
    go_wp2_with fail
    go_ret
    exact ⟨⟨_,rfl,HB.out⟩,rfl⟩
  ·have hlf:¬ ((k:Int) < (xs.length:Int)):=by omega
   obtain rfl:k=xs.length:=by omega
   have HB:=Lib.hid (show decide ((0:Int)≤-1)=!xs.all (fun x=>decide (x=0)) by
    have:xs.all (fun x=>decide (x=0))=true:=List.all_eq_true.2 (fun x hx=>by
     obtain ⟨k,hk,rfl⟩:=List.getElem_of_mem hx
     have:=HN.out k hk
     simpa [Z,hk] using this)
    rw [this];rfl)
   go_wp2_with fail
   go_ret
   exact ⟨⟨_,rfl,HB.out⟩,rfl⟩
theorem c_anyNot0 (xs:List Int) (A:Option Addr) (B c:Nat) (w:World) (hA:Is w B A xs) (hn:xs.length<=140737488351232) :
  Calls Tryd.prog 54 #[.slice A xs.length c,.func (.func 55) #[] #[]] w fun e w'=>e=.returned (.bool (!xs.all (fun x=>decide (x=0))))∧w=w':=by
 go_enter Tryd.func54,Tryd.ntmps54
 go_wp2_with fail
 refine (c_indexNot0 xs A B c w hA hn).mono ?_
 rintro e w1 ⟨⟨i,rfl,hi⟩,rfl⟩
 go_wp2_with fail
 go_ret
 rw [<- hi]
 exact ⟨rfl,rfl⟩
theorem c_any0 (A:Option Addr) (c:Nat) (w:World):Calls Tryd.prog 54 #[.slice A 0 c,.func (.func 55) #[] #[]] w fun e w'=>e=.returned (.bool false)∧w=w' :=
 c_anyNot0 [] A 0 c w (fun h=>by simp at h) (by simp)
theorem c_any1 (x:Int) (g off c:Nat) (w:World) (h:w.cell? ⟨g,off,none⟩=some (.int .i64 x)) :
  Calls Tryd.prog 54 #[.slice (some ⟨g,off,none⟩) 1 c,.func (.func 55) #[] #[]] w fun e w'=>e=.returned (.bool (!decide (x=0)))∧w=w' :=
 (c_anyNot0 [x] (some ⟨g,off,none⟩) (g+1) c w (fun _=>⟨g,off,rfl,by omega,fun k hk=>by
   have hk0:k=0:=by simpa using hk
   subst hk0
   exact h⟩) (by simp)).mono fun e w' he=>⟨by rw [he.1];simp,he.2⟩
theorem c_any2 (x y:Int) (g off c:Nat) (w:World) (h:w.cell? ⟨g,off,none⟩=some (.int .i64 x)) (h2:w.cell? ⟨g,off+1,none⟩=some (.int .i64 y)) :
  Calls Tryd.prog 54 #[.slice (some ⟨g,off,none⟩) 2 c,.func (.func 55) #[] #[]] w fun e w'=>e=.returned (.bool (!(decide (x=0) && decide (y=0))))∧w=w' :=
 (c_anyNot0 [x,y] (some ⟨g,off,none⟩) (g+1) c w (fun _=>⟨g,off,rfl,by omega,fun k hk=>by
   have hk2:k=0∨k=1:=by simp at hk;omega
   rcases hk2 with rfl | rfl
   ·exact h
   ·exact h2⟩) (by simp)).mono fun e w' he=>⟨by rw [he.1];simp,he.2⟩
theorem formOk_no {k a b:Int} (h:¬ (0<=k∧k<=4)):formOk k a b=false:=by
 have:k≠0∧k≠1∧k≠2∧k≠3∧k≠4:=by omega
 simp [formOk,this]
set_option maxRecDepth 8000 in
set_option maxHeartbeats 4000000 in
theorem c_form0 (k:Nat) (W:ByteArray) (a b:Int) (hk:k<=4) (hA:(#[.string ⟨#[99,111,109,101]⟩,.int .i64 2,.string ⟨#[103,111]⟩,.int .i64 0,.string ⟨#[110,101,101,100]⟩,.int .i64 1,.string ⟨#[108,97,116,101,114]⟩,.int .i64 1,.string ⟨#[98,97,99,107]⟩,.int .i64 0]:Array Value)[k * 2]?=some (.string W)∧(#[.string ⟨#[99,111,109,101]⟩,.int .i64 2,.string ⟨#[103,111]⟩,.int .i64 0,.string ⟨#[110,101,101,100]⟩,.int .i64 1,.string ⟨#[108,97,116,101,114]⟩,.int .i64 1,.string ⟨#[98,97,99,107]⟩,.int .i64 0]:Array Value)[k * 2+1]?=some (.int .i64 0)) (w:World) :
  Calls Tryd.prog 33 #[.agg #[.int .i64 (k:Int),.int .i64 a,.int .i64 b]] w fun e w'=>e=.returned (.tuple #[.agg #[.string W,.int .i64 0],.bool (decide (a=0) && decide (b=0))])∧Below w.heap.size w w':=by
 have hd:decide ((0:Int)<=(k:Int)∧(k:Int)<=4)=true:=decide_eq_true (by omega)
 have HD:=Lib.hid hd
 obtain ⟨w0,hw0⟩:∃ w0,(w.alloc (.cells #[.int .i64 (k:Int),.int .i64 a,.int .i64 b] 24)).alloc (.cells #[.string ⟨#[]⟩,.int .i64 0] 54)=w0:=⟨_,rfl⟩
 have hz0:w0.heap.size=w.heap.size+2:=by rw [<- hw0];simp
 have hb0:Below w.heap.size w w0:=by rw [<- hw0];exact ((Below.refl _ w).alloc (Nat.le_refl _) _).alloc (by simp) _
 have bD:w0.heap[w.heap.size]?=some (.cells #[.int .i64 (k:Int),.int .i64 a,.int .i64 b] 24 (0,0)):=by rw [<- hw0];exact (Below.heap_alloc _ _ _ (by simp)).trans (heap_alloc_new _ _)
 have bR:w0.heap[w.heap.size+1]?=some (.cells #[.string ⟨#[]⟩,.int .i64 0] 54 (0,0)):=by
  rw [<- hw0]
  have h:=heap_alloc_new (w.alloc (.cells #[.int .i64 (k:Int),.int .i64 a,.int .i64 b] 24)) (.cells #[.string ⟨#[]⟩,.int .i64 0] 54)
  rwa [show (w.alloc (.cells #[.int .i64 (k:Int),.int .i64 a,.int .i64 b] 24)).heap.size=w.heap.size+1 by simp] at h
 have HS:=Lib.hid (fun (W':World) (hb:Below (w.heap.size+1) w0 W')=>show W'.cell? ⟨w.heap.size,0,none⟩=some (.int .i64 (k:Int))∧W'.cell? ⟨w.heap.size,1,none⟩=some (.int .i64 a)∧W'.cell? ⟨w.heap.size,2,none⟩=some (.int .i64 b) from by
  have b:=(hb.block w.heap.size (by omega)).trans bD
  exact ⟨cell_of_row _ w.heap.size 0 _ _ _ b,cell_of_row _ w.heap.size 1 _ _ _ b,cell_of_row _ w.heap.size 2 _ _ _ b⟩)
 have p1:(0:Int)<=(k:Int):=by omega
 have p2:(k:Int) < 5:=by omega
 clear bD hk hd
 go_enter Tryd.func33,Tryd.ntmps33
 go_wp2_with fail
 refine (c_deedForms _).mono ?_
 rintro e w1 ⟨rfl,hb1⟩
 have hz1:=hb1.size
 have c0:=(HS.out (w1.alloc (.cells #[.string ⟨#[99,111,109,101]⟩,.int .i64 2,.string ⟨#[103,111]⟩,.int .i64 0,.string ⟨#[110,101,101,100]⟩,.int .i64 1,.string ⟨#[108,97,116,101,114]⟩,.int .i64 1,.string ⟨#[98,97,99,107]⟩,.int .i64 0] 66)) ((hb1.alloc hz1 _).mono (by omega))).1
 go_wp2_with fail
 refine (c_within _ _ _ _).mono ?_
 rintro e w' ⟨rfl,rfl⟩
 rw [HD.out]
 clear c0
 obtain ⟨w2,hw2⟩:∃ w2,w1.alloc (.cells #[.string ⟨#[99,111,109,101]⟩,.int .i64 2,.string ⟨#[103,111]⟩,.int .i64 0,.string ⟨#[110,101,101,100]⟩,.int .i64 1,.string ⟨#[108,97,116,101,114]⟩,.int .i64 1,.string ⟨#[98,97,99,107]⟩,.int .i64 0] 66)=w2:=⟨_,rfl⟩
 have hb2:Below w1.heap.size w1 w2:=by rw [<- hw2];exact (Below.refl _ w1).alloc (Nat.le_refl _) _
 have hz2:w2.heap.size=w1.heap.size+1:=by rw [<- hw2];simp
 have bF:w2.heap[w1.heap.size]?=some (.cells #[.string ⟨#[99,111,109,101]⟩,.int .i64 2,.string ⟨#[103,111]⟩,.int .i64 0,.string ⟨#[110,101,101,100]⟩,.int .i64 1,.string ⟨#[108,97,116,101,114]⟩,.int .i64 1,.string ⟨#[98,97,99,107]⟩,.int .i64 0] 66 (0,0)):=by rw [<- hw2];exact heap_alloc_new _ _
 have x0:=(cell_of_row _ w1.heap.size (k * 2) _ _ _ bF).trans hA.1
 have x1:=(cell_of_row _ w1.heap.size (k * 2+1) _ _ _ bF).trans hA.2
 have hx2:=hb1.trans (hb2.mono hz1)
 obtain ⟨c0,c1,c2⟩:=HS.out _ (hx2.mono (by omega))
 rw [hw2]
 clear bF hA hw2
 have hlt2:w1.heap.size < w2.heap.size:=by omega
 clear hz2
 go_wp2_with fail
 obtain ⟨w3,hw3⟩:∃ w3,w2.alloc (.cells #[.string W,.int .i64 0] 54)=w3:=⟨_,rfl⟩
 have hb3:Below w2.heap.size w2 w3:=by rw [<- hw3];exact (Below.refl _ w2).alloc (Nat.le_refl _) _
 have hz3:w2.heap.size < w3.heap.size:=by rw [<- hw3];simp
 have bG:w3.heap[w2.heap.size]?=some (.cells #[.string W,.int .i64 0] 54 (0,0)):=by rw [<- hw3];exact heap_alloc_new _ _
 rw [hw3]
 have hx3:=hx2.trans (hb3.mono (by omega))
 have HG:=Lib.hid (fun (W':World) (hb:Below w3.heap.size w3 W')=>show W'.cell? ⟨w.heap.size,0,none⟩=some (.int .i64 (k:Int))∧W'.cell? ⟨w.heap.size,1,none⟩=some (.int .i64 a)∧W'.cell? ⟨w.heap.size,2,none⟩=some (.int .i64 b)∧W'.cell? ⟨w2.heap.size,0,none⟩=some (.string W)∧W'.cell? ⟨w2.heap.size,1,none⟩=some (.int .i64 0) from by
  have b:=(hb.block w2.heap.size (by omega)).trans bG
  obtain ⟨s0,s1,s2⟩:=HS.out W' ((hx3.trans (hb.mono (by omega))).mono (by omega))
  exact ⟨s0,s1,s2,cell_of_row _ w2.heap.size 0 _ _ _ b,cell_of_row _ w2.heap.size 1 _ _ _ b⟩)
 obtain ⟨g0,g1,g2,g3,g4⟩:=HG.out _ (Below.refl _ w3)
 have hd3:Below w3.heap.size w3 w3.drew:=(Below.refl _ w3).drew
 clear bG hb2 hb3 hw0 hw3 c0 c1 c2 x0 x1
 go_region_held3 (fun W'=>W'.cell? ⟨w.heap.size,0,none⟩=some (.int .i64 (k:Int))∧W'.cell? ⟨w.heap.size,1,none⟩=some (.int .i64 a)∧W'.cell? ⟨w.heap.size,2,none⟩=some (.int .i64 b)∧W'.cell? ⟨w2.heap.size,0,none⟩=some (.string W)∧W'.cell? ⟨w2.heap.size,1,none⟩=some (.int .i64 0))
  (first
    | go_keep
    | exact HG.out _ hx6)
  (first
    | (go_at_call 34;refine (c_numbers _ _ _ _).mono ?_;rintro e w6 ⟨g,rfl,e0,e1,hg,hb6⟩;have hx6:Below w3.heap.size w3 w6:=hd3.trans hb6))
 obtain ⟨y0,y1,y2,y3,y4⟩:=HG.out _ hx6
 have hy6:=hx3.trans (hx6.mono (by omega))
 have b6:=(hy6.block (w.heap.size+1) (by omega)).trans bR
 have r0:=cell_of_row _ (w.heap.size+1) 0 _ _ _ b6
 have r1:=cell_of_row _ (w.heap.size+1) 1 _ _ _ b6
 have f0:w6.frozen? ⟨w.heap.size+1,0,none⟩=false:=unfrozenB b6
 have f1:w6.frozen? ⟨w.heap.size+1,1,none⟩=false:=unfrozenB b6
 have hlR:w.heap.size+1 < w2.heap.size:=by omega
 have HK:=Lib.hid (fun (p q:Value)=>show ((w6.setCell ⟨w.heap.size+1,0,none⟩ p).setCell ⟨w.heap.size+1,1,none⟩ q).drew.cell? ⟨w2.heap.size,0,none⟩=some (.string W)∧((w6.setCell ⟨w.heap.size+1,0,none⟩ p).setCell ⟨w.heap.size+1,1,none⟩ q).drew.cell? ⟨w2.heap.size,1,none⟩=some (.int .i64 0) from
  ⟨(World.cell?_of_block (far2 w6 (w.heap.size+1) p q w2.heap.size (by omega))).trans y3,(World.cell?_of_block (far2 w6 (w.heap.size+1) p q w2.heap.size (by omega))).trans y4⟩)
 have E0:=Lib.hid e0
 have E1:=Lib.hid e1
 have HB:=Lib.hid b6
 have HY:=Lib.hid (show Below w.heap.size w w6 from hb0.trans (hy6.mono (by omega)))
 clear g0 g1 g2 g3 g4 y0 y1 y2 hx6 hy6 hb6 hd3 e0 e1 b6 hx2 hx3
 go_wp2_with fail
 go_region_held3 (fun W'=>W'.cell? ⟨w2.heap.size,0,none⟩=some (.string W)∧W'.cell? ⟨w2.heap.size,1,none⟩=some (.int .i64 0))
  (first
    | exact HK.out _ _
    | go_keep)
  (first
    | (go_at_call 54;refine (c_any2 a b g 0 2 _ (by exact E0.out) (by exact E1.out)).mono ?_;rintro e w' ⟨rfl,rfl⟩))
 go_wp2_with fail
 obtain ⟨k0,k1⟩:=put2 (.string W) (.int .i64 0) HB.out
 refine bodyPost_ret (v:=.tuple #[.agg #[.string W,.int .i64 0],.bool (decide (a=0) && decide (b=0))]) (by simp [results,Tryd.f33,go_sem,k0,k1]) rfl ?_
 exact ⟨rfl,(HY.out.drew.setCell (p:=⟨w.heap.size+1,0,none⟩) (by simp) _).setCell (p:=⟨w.heap.size+1,1,none⟩) (by simp) _⟩
set_option maxRecDepth 8000 in
set_option maxHeartbeats 4000000 in
theorem c_form1 (k:Nat) (W:ByteArray) (a b:Int) (hk:k<=4) (hA:(#[.string ⟨#[99,111,109,101]⟩,.int .i64 2,.string ⟨#[103,111]⟩,.int .i64 0,.string ⟨#[110,101,101,100]⟩,.int .i64 1,.string ⟨#[108,97,116,101,114]⟩,.int .i64 1,.string ⟨#[98,97,99,107]⟩,.int .i64 0]:Array Value)[k * 2]?=some (.string W)∧(#[.string ⟨#[99,111,109,101]⟩,.int .i64 2,.string ⟨#[103,111]⟩,.int .i64 0,.string ⟨#[110,101,101,100]⟩,.int .i64 1,.string ⟨#[108,97,116,101,114]⟩,.int .i64 1,.string ⟨#[98,97,99,107]⟩,.int .i64 0]:Array Value)[k * 2+1]?=some (.int .i64 1)) (w:World) :
  Calls Tryd.prog 33 #[.agg #[.int .i64 (k:Int),.int .i64 a,.int .i64 b]] w fun e w'=>e=.returned (.tuple #[.agg #[.string W,.int .i64 1],.bool (decide (b=0))])∧Below w.heap.size w w':=by
 have hd:decide ((0:Int)<=(k:Int)∧(k:Int)<=4)=true:=decide_eq_true (by omega)
 have HD:=Lib.hid hd
 obtain ⟨w0,hw0⟩:∃ w0,(w.alloc (.cells #[.int .i64 (k:Int),.int .i64 a,.int .i64 b] 24)).alloc (.cells #[.string ⟨#[]⟩,.int .i64 0] 54)=w0:=⟨_,rfl⟩
 have hz0:w0.heap.size=w.heap.size+2:=by rw [<- hw0];simp
 have hb0:Below w.heap.size w w0:=by rw [<- hw0];exact ((Below.refl _ w).alloc (Nat.le_refl _) _).alloc (by simp) _
 have bD:w0.heap[w.heap.size]?=some (.cells #[.int .i64 (k:Int),.int .i64 a,.int .i64 b] 24 (0,0)):=by rw [<- hw0];exact (Below.heap_alloc _ _ _ (by simp)).trans (heap_alloc_new _ _)
 have bR:w0.heap[w.heap.size+1]?=some (.cells #[.string ⟨#[]⟩,.int .i64 0] 54 (0,0)):=by
  rw [<- hw0]
  have h:=heap_alloc_new (w.alloc (.cells #[.int .i64 (k:Int),.int .i64 a,.int .i64 b] 24)) (.cells #[.string ⟨#[]⟩,.int .i64 0] 54)
  rwa [show (w.alloc (.cells #[.int .i64 (k:Int),.int .i64 a,.int .i64 b] 24)).heap.size=w.heap.size+1 by simp] at h
 have HS:=Lib.hid (fun (W':World) (hb:Below (w.heap.size+1) w0 W')=>show W'.cell? ⟨w.heap.size,0,none⟩=some (.int .i64 (k:Int))∧W'.cell? ⟨w.heap.size,1,none⟩=some (.int .i64 a)∧W'.cell? ⟨w.heap.size,2,none⟩=some (.int .i64 b) from by
  have b:=(hb.block w.heap.size (by omega)).trans bD
  exact ⟨cell_of_row _ w.heap.size 0 _ _ _ b,cell_of_row _ w.heap.size 1 _ _ _ b,cell_of_row _ w.heap.size 2 _ _ _ b⟩)
 have p1:(0:Int)<=(k:Int):=by omega
 have p2:(k:Int) < 5:=by omega
 clear bD hk hd
 go_enter Tryd.func33,Tryd.ntmps33
 go_wp2_with fail
 refine (c_deedForms _).mono ?_
 rintro e w1 ⟨rfl,hb1⟩
 have hz1:=hb1.size
 have c0:=(HS.out (w1.alloc (.cells #[.string ⟨#[99,111,109,101]⟩,.int .i64 2,.string ⟨#[103,111]⟩,.int .i64 0,.string ⟨#[110,101,101,100]⟩,.int .i64 1,.string ⟨#[108,97,116,101,114]⟩,.int .i64 1,.string ⟨#[98,97,99,107]⟩,.int .i64 0] 66)) ((hb1.alloc hz1 _).mono (by omega))).1
 go_wp2_with fail
 refine (c_within _ _ _ _).mono ?_
 rintro e w' ⟨rfl,rfl⟩
 rw [HD.out]
 clear c0
 obtain ⟨w2,hw2⟩:∃ w2,w1.alloc (.cells #[.string ⟨#[99,111,109,101]⟩,.int .i64 2,.string ⟨#[103,111]⟩,.int .i64 0,.string ⟨#[110,101,101,100]⟩,.int .i64 1,.string ⟨#[108,97,116,101,114]⟩,.int .i64 1,.string ⟨#[98,97,99,107]⟩,.int .i64 0] 66)=w2:=⟨_,rfl⟩
 have hb2:Below w1.heap.size w1 w2:=by rw [<- hw2];exact (Below.refl _ w1).alloc (Nat.le_refl _) _
 have hz2:w2.heap.size=w1.heap.size+1:=by rw [<- hw2];simp
 have bF:w2.heap[w1.heap.size]?=some (.cells #[.string ⟨#[99,111,109,101]⟩,.int .i64 2,.string ⟨#[103,111]⟩,.int .i64 0,.string ⟨#[110,101,101,100]⟩,.int .i64 1,.string ⟨#[108,97,116,101,114]⟩,.int .i64 1,.string ⟨#[98,97,99,107]⟩,.int .i64 0] 66 (0,0)):=by rw [<- hw2];exact heap_alloc_new _ _
 have x0:=(cell_of_row _ w1.heap.size (k * 2) _ _ _ bF).trans hA.1
 have x1:=(cell_of_row _ w1.heap.size (k * 2+1) _ _ _ bF).trans hA.2
 have hx2:=hb1.trans (hb2.mono hz1)
 obtain ⟨c0,c1,c2⟩:=HS.out _ (hx2.mono (by omega))
 rw [hw2]
 clear bF hA hw2
 have hlt2:w1.heap.size < w2.heap.size:=by omega
 clear hz2
 go_wp2_with fail
 obtain ⟨w3,hw3⟩:∃ w3,w2.alloc (.cells #[.string W,.int .i64 1] 54)=w3:=⟨_,rfl⟩
 have hb3:Below w2.heap.size w2 w3:=by rw [<- hw3];exact (Below.refl _ w2).alloc (Nat.le_refl _) _
 have hz3:w2.heap.size < w3.heap.size:=by rw [<- hw3];simp
 have bG:w3.heap[w2.heap.size]?=some (.cells #[.string W,.int .i64 1] 54 (0,0)):=by rw [<- hw3];exact heap_alloc_new _ _
 rw [hw3]
 have hx3:=hx2.trans (hb3.mono (by omega))
 have HG:=Lib.hid (fun (W':World) (hb:Below w3.heap.size w3 W')=>show W'.cell? ⟨w.heap.size,0,none⟩=some (.int .i64 (k:Int))∧W'.cell? ⟨w.heap.size,1,none⟩=some (.int .i64 a)∧W'.cell? ⟨w.heap.size,2,none⟩=some (.int .i64 b)∧W'.cell? ⟨w2.heap.size,0,none⟩=some (.string W)∧W'.cell? ⟨w2.heap.size,1,none⟩=some (.int .i64 1) from by
  have b:=(hb.block w2.heap.size (by omega)).trans bG
  obtain ⟨s0,s1,s2⟩:=HS.out W' ((hx3.trans (hb.mono (by omega))).mono (by omega))
  exact ⟨s0,s1,s2,cell_of_row _ w2.heap.size 0 _ _ _ b,cell_of_row _ w2.heap.size 1 _ _ _ b⟩)
 obtain ⟨g0,g1,g2,g3,g4⟩:=HG.out _ (Below.refl _ w3)
 have hd3:Below w3.heap.size w3 w3.drew:=(Below.refl _ w3).drew
 clear bG hb2 hb3 hw0 hw3 c0 c1 c2 x0 x1
 go_region_held3 (fun W'=>W'.cell? ⟨w.heap.size,0,none⟩=some (.int .i64 (k:Int))∧W'.cell? ⟨w.heap.size,1,none⟩=some (.int .i64 a)∧W'.cell? ⟨w.heap.size,2,none⟩=some (.int .i64 b)∧W'.cell? ⟨w2.heap.size,0,none⟩=some (.string W)∧W'.cell? ⟨w2.heap.size,1,none⟩=some (.int .i64 1))
  (first
    | go_keep
    | exact HG.out _ hx6)
  (first
    | (go_at_call 34;refine (c_numbers _ _ _ _).mono ?_;rintro e w6 ⟨g,rfl,e0,e1,hg,hb6⟩;have hx6:Below w3.heap.size w3 w6:=hd3.trans hb6))
 obtain ⟨y0,y1,y2,y3,y4⟩:=HG.out _ hx6
 have hy6:=hx3.trans (hx6.mono (by omega))
 have b6:=(hy6.block (w.heap.size+1) (by omega)).trans bR
 have r0:=cell_of_row _ (w.heap.size+1) 0 _ _ _ b6
 have r1:=cell_of_row _ (w.heap.size+1) 1 _ _ _ b6
 have f0:w6.frozen? ⟨w.heap.size+1,0,none⟩=false:=unfrozenB b6
 have f1:w6.frozen? ⟨w.heap.size+1,1,none⟩=false:=unfrozenB b6
 have hlR:w.heap.size+1 < w2.heap.size:=by omega
 have HK:=Lib.hid (fun (p q:Value)=>show ((w6.setCell ⟨w.heap.size+1,0,none⟩ p).setCell ⟨w.heap.size+1,1,none⟩ q).drew.cell? ⟨w2.heap.size,0,none⟩=some (.string W)∧((w6.setCell ⟨w.heap.size+1,0,none⟩ p).setCell ⟨w.heap.size+1,1,none⟩ q).drew.cell? ⟨w2.heap.size,1,none⟩=some (.int .i64 1) from
  ⟨(World.cell?_of_block (far2 w6 (w.heap.size+1) p q w2.heap.size (by omega))).trans y3,(World.cell?_of_block (far2 w6 (w.heap.size+1) p q w2.heap.size (by omega))).trans y4⟩)
 have E0:=Lib.hid e0
 have E1:=Lib.hid e1
 have HB:=Lib.hid b6
 have HY:=Lib.hid (show Below w.heap.size w w6 from hb0.trans (hy6.mono (by omega)))
 clear g0 g1 g2 g3 g4 y0 y1 y2 hx6 hy6 hb6 hd3 e0 e1 b6 hx2 hx3
 go_wp2_with fail
 go_region_held3 (fun W'=>W'.cell? ⟨w2.heap.size,0,none⟩=some (.string W)∧W'.cell? ⟨w2.heap.size,1,none⟩=some (.int .i64 1))
  (first
    | exact HK.out _ _
    | go_keep)
  (first
    | (go_at_call 54;refine (c_any1 b g 1 1 _ (by exact E1.out)).mono ?_;rintro e w' ⟨rfl,rfl⟩))
 go_wp2_with fail
 obtain ⟨k0,k1⟩:=put2 (.string W) (.int .i64 1) HB.out
 refine bodyPost_ret (v:=.tuple #[.agg #[.string W,.int .i64 1],.bool (decide (b=0))]) (by simp [results,Tryd.f33,go_sem,k0,k1]) rfl ?_
 exact ⟨rfl,(HY.out.drew.setCell (p:=⟨w.heap.size+1,0,none⟩) (by simp) _).setCell (p:=⟨w.heap.size+1,1,none⟩) (by simp) _⟩
set_option maxRecDepth 8000 in
set_option maxHeartbeats 4000000 in
theorem c_form2 (k:Nat) (W:ByteArray) (a b:Int) (hk:k<=4) (hA:(#[.string ⟨#[99,111,109,101]⟩,.int .i64 2,.string ⟨#[103,111]⟩,.int .i64 0,.string ⟨#[110,101,101,100]⟩,.int .i64 1,.string ⟨#[108,97,116,101,114]⟩,.int .i64 1,.string ⟨#[98,97,99,107]⟩,.int .i64 0]:Array Value)[k * 2]?=some (.string W)∧(#[.string ⟨#[99,111,109,101]⟩,.int .i64 2,.string ⟨#[103,111]⟩,.int .i64 0,.string ⟨#[110,101,101,100]⟩,.int .i64 1,.string ⟨#[108,97,116,101,114]⟩,.int .i64 1,.string ⟨#[98,97,99,107]⟩,.int .i64 0]:Array Value)[k * 2+1]?=some (.int .i64 2)) (w:World) :
  Calls Tryd.prog 33 #[.agg #[.int .i64 (k:Int),.int .i64 a,.int .i64 b]] w fun e w'=>e=.returned (.tuple #[.agg #[.string W,.int .i64 2],.bool (true)])∧Below w.heap.size w w':=by
 have hd:decide ((0:Int)<=(k:Int)∧(k:Int)<=4)=true:=decide_eq_true (by omega)
 have HD:=Lib.hid hd
 obtain ⟨w0,hw0⟩:∃ w0,(w.alloc (.cells #[.int .i64 (k:Int),.int .i64 a,.int .i64 b] 24)).alloc (.cells #[.string ⟨#[]⟩,.int .i64 0] 54)=w0:=⟨_,rfl⟩
 have hz0:w0.heap.size=w.heap.size+2:=by rw [<- hw0];simp
 have hb0:Below w.heap.size w w0:=by rw [<- hw0];exact ((Below.refl _ w).alloc (Nat.le_refl _) _).alloc (by simp) _
 have bD:w0.heap[w.heap.size]?=some (.cells #[.int .i64 (k:Int),.int .i64 a,.int .i64 b] 24 (0,0)):=by rw [<- hw0];exact (Below.heap_alloc _ _ _ (by simp)).trans (heap_alloc_new _ _)
 have bR:w0.heap[w.heap.size+1]?=some (.cells #[.string ⟨#[]⟩,.int .i64 0] 54 (0,0)):=by
  rw [<- hw0]
  have h:=heap_alloc_new (w.alloc (.cells #[.int .i64 (k:Int),.int .i64 a,.int .i64 b] 24)) (.cells #[.string ⟨#[]⟩,.int .i64 0] 54)
  rwa [show (w.alloc (.cells #[.int .i64 (k:Int),.int .i64 a,.int .i64 b] 24)).heap.size=w.heap.size+1 by simp] at h
 have HS:=Lib.hid (fun (W':World) (hb:Below (w.heap.size+1) w0 W')=>show W'.cell? ⟨w.heap.size,0,none⟩=some (.int .i64 (k:Int))∧W'.cell? ⟨w.heap.size,1,none⟩=some (.int .i64 a)∧W'.cell? ⟨w.heap.size,2,none⟩=some (.int .i64 b) from by
  have b:=(hb.block w.heap.size (by omega)).trans bD
  exact ⟨cell_of_row _ w.heap.size 0 _ _ _ b,cell_of_row _ w.heap.size 1 _ _ _ b,cell_of_row _ w.heap.size 2 _ _ _ b⟩)
 have p1:(0:Int)<=(k:Int):=by omega
 have p2:(k:Int) < 5:=by omega
 clear bD hk hd
 go_enter Tryd.func33,Tryd.ntmps33
 go_wp2_with fail
 refine (c_deedForms _).mono ?_
 rintro e w1 ⟨rfl,hb1⟩
 have hz1:=hb1.size
 have c0:=(HS.out (w1.alloc (.cells #[.string ⟨#[99,111,109,101]⟩,.int .i64 2,.string ⟨#[103,111]⟩,.int .i64 0,.string ⟨#[110,101,101,100]⟩,.int .i64 1,.string ⟨#[108,97,116,101,114]⟩,.int .i64 1,.string ⟨#[98,97,99,107]⟩,.int .i64 0] 66)) ((hb1.alloc hz1 _).mono (by omega))).1
 go_wp2_with fail
 refine (c_within _ _ _ _).mono ?_
 rintro e w' ⟨rfl,rfl⟩
 rw [HD.out]
 clear c0
 obtain ⟨w2,hw2⟩:∃ w2,w1.alloc (.cells #[.string ⟨#[99,111,109,101]⟩,.int .i64 2,.string ⟨#[103,111]⟩,.int .i64 0,.string ⟨#[110,101,101,100]⟩,.int .i64 1,.string ⟨#[108,97,116,101,114]⟩,.int .i64 1,.string ⟨#[98,97,99,107]⟩,.int .i64 0] 66)=w2:=⟨_,rfl⟩
 have hb2:Below w1.heap.size w1 w2:=by rw [<- hw2];exact (Below.refl _ w1).alloc (Nat.le_refl _) _
 have hz2:w2.heap.size=w1.heap.size+1:=by rw [<- hw2];simp
 have bF:w2.heap[w1.heap.size]?=some (.cells #[.string ⟨#[99,111,109,101]⟩,.int .i64 2,.string ⟨#[103,111]⟩,.int .i64 0,.string ⟨#[110,101,101,100]⟩,.int .i64 1,.string ⟨#[108,97,116,101,114]⟩,.int .i64 1,.string ⟨#[98,97,99,107]⟩,.int .i64 0] 66 (0,0)):=by rw [<- hw2];exact heap_alloc_new _ _
 have x0:=(cell_of_row _ w1.heap.size (k * 2) _ _ _ bF).trans hA.1
 have x1:=(cell_of_row _ w1.heap.size (k * 2+1) _ _ _ bF).trans hA.2
 have hx2:=hb1.trans (hb2.mono hz1)
 obtain ⟨c0,c1,c2⟩:=HS.out _ (hx2.mono (by omega))
 rw [hw2]
 clear bF hA hw2
 have hlt2:w1.heap.size < w2.heap.size:=by omega
 clear hz2
 go_wp2_with fail
 obtain ⟨w3,hw3⟩:∃ w3,w2.alloc (.cells #[.string W,.int .i64 2] 54)=w3:=⟨_,rfl⟩
 have hb3:Below w2.heap.size w2 w3:=by rw [<- hw3];exact (Below.refl _ w2).alloc (Nat.le_refl _) _
 have hz3:w2.heap.size < w3.heap.size:=by rw [<- hw3];simp
 have bG:w3.heap[w2.heap.size]?=some (.cells #[.string W,.int .i64 2] 54 (0,0)):=by rw [<- hw3];exact heap_alloc_new _ _
 rw [hw3]
 have hx3:=hx2.trans (hb3.mono (by omega))
 have HG:=Lib.hid (fun (W':World) (hb:Below w3.heap.size w3 W')=>show W'.cell? ⟨w.heap.size,0,none⟩=some (.int .i64 (k:Int))∧W'.cell? ⟨w.heap.size,1,none⟩=some (.int .i64 a)∧W'.cell? ⟨w.heap.size,2,none⟩=some (.int .i64 b)∧W'.cell? ⟨w2.heap.size,0,none⟩=some (.string W)∧W'.cell? ⟨w2.heap.size,1,none⟩=some (.int .i64 2) from by
  have b:=(hb.block w2.heap.size (by omega)).trans bG
  obtain ⟨s0,s1,s2⟩:=HS.out W' ((hx3.trans (hb.mono (by omega))).mono (by omega))
  exact ⟨s0,s1,s2,cell_of_row _ w2.heap.size 0 _ _ _ b,cell_of_row _ w2.heap.size 1 _ _ _ b⟩)
 obtain ⟨g0,g1,g2,g3,g4⟩:=HG.out _ (Below.refl _ w3)
 have hd3:Below w3.heap.size w3 w3.drew:=(Below.refl _ w3).drew
 clear bG hb2 hb3 hw0 hw3 c0 c1 c2 x0 x1
 go_region_held3 (fun W'=>W'.cell? ⟨w.heap.size,0,none⟩=some (.int .i64 (k:Int))∧W'.cell? ⟨w.heap.size,1,none⟩=some (.int .i64 a)∧W'.cell? ⟨w.heap.size,2,none⟩=some (.int .i64 b)∧W'.cell? ⟨w2.heap.size,0,none⟩=some (.string W)∧W'.cell? ⟨w2.heap.size,1,none⟩=some (.int .i64 2))
  (first
    | go_keep
    | exact HG.out _ hx6)
  (first
    | (go_at_call 34;refine (c_numbers _ _ _ _).mono ?_;rintro e w6 ⟨g,rfl,e0,e1,hg,hb6⟩;have hx6:Below w3.heap.size w3 w6:=hd3.trans hb6))
 obtain ⟨y0,y1,y2,y3,y4⟩:=HG.out _ hx6
 have hy6:=hx3.trans (hx6.mono (by omega))
 have b6:=(hy6.block (w.heap.size+1) (by omega)).trans bR
 have r0:=cell_of_row _ (w.heap.size+1) 0 _ _ _ b6
 have r1:=cell_of_row _ (w.heap.size+1) 1 _ _ _ b6
 have f0:w6.frozen? ⟨w.heap.size+1,0,none⟩=false:=unfrozenB b6
 have f1:w6.frozen? ⟨w.heap.size+1,1,none⟩=false:=unfrozenB b6
 have hlR:w.heap.size+1 < w2.heap.size:=by omega
 have HK:=Lib.hid (fun (p q:Value)=>show ((w6.setCell ⟨w.heap.size+1,0,none⟩ p).setCell ⟨w.heap.size+1,1,none⟩ q).drew.cell? ⟨w2.heap.size,0,none⟩=some (.string W)∧((w6.setCell ⟨w.heap.size+1,0,none⟩ p).setCell ⟨w.heap.size+1,1,none⟩ q).drew.cell? ⟨w2.heap.size,1,none⟩=some (.int .i64 2) from
  ⟨(World.cell?_of_block (far2 w6 (w.heap.size+1) p q w2.heap.size (by omega))).trans y3,(World.cell?_of_block (far2 w6 (w.heap.size+1) p q w2.heap.size (by omega))).trans y4⟩)
 have E0:=Lib.hid e0
 have E1:=Lib.hid e1
 have HB:=Lib.hid b6
 have HY:=Lib.hid (show Below w.heap.size w w6 from hb0.trans (hy6.mono (by omega)))
 clear g0 g1 g2 g3 g4 y0 y1 y2 hx6 hy6 hb6 hd3 e0 e1 b6 hx2 hx3
 go_wp2_with fail
 go_region_held3 (fun W'=>W'.cell? ⟨w2.heap.size,0,none⟩=some (.string W)∧W'.cell? ⟨w2.heap.size,1,none⟩=some (.int .i64 2))
  (first
    | exact HK.out _ _
    | go_keep)
  (first
    | (go_at_call 54;refine (c_any0 _ _ _).mono ?_;rintro e w' ⟨rfl,rfl⟩))
 go_wp2_with fail
 obtain ⟨k0,k1⟩:=put2 (.string W) (.int .i64 2) HB.out
 refine bodyPost_ret (v:=.tuple #[.agg #[.string W,.int .i64 2],.bool (true)]) (by simp [results,Tryd.f33,go_sem,k0,k1]) rfl ?_
 exact ⟨rfl,(HY.out.drew.setCell (p:=⟨w.heap.size+1,0,none⟩) (by simp) _).setCell (p:=⟨w.heap.size+1,1,none⟩) (by simp) _⟩
set_option maxRecDepth 8000 in
set_option maxHeartbeats 4000000 in
theorem c_formNo (k a b:Int) (hk:¬ (0<=k∧k<=4)) (w:World) :
  Calls Tryd.prog 33 #[.agg #[.int .i64 k,.int .i64 a,.int .i64 b]] w fun e w'=>(∃ f,e=.returned (.tuple #[f,.bool (formOk k a b)])∧(0<=k∧k<=4->f=formVal k)∧∃ W n,f=.agg #[.string W,.int .i64 n])∧Below w.heap.size w w':=by
 have HD:=Lib.hid (show decide ((0:Int)<=k∧k<=4)=false from decide_eq_false hk)
 have HV:=Lib.hid (formOk_no (a:=a) (b:=b) hk)
 have HK:=Lib.hid hk
 obtain ⟨w0,hw0⟩:∃ w0,(w.alloc (.cells #[.int .i64 k,.int .i64 a,.int .i64 b] 24)).alloc (.cells #[.string ⟨#[]⟩,.int .i64 0] 54)=w0:=⟨_,rfl⟩
 have hz0:w0.heap.size=w.heap.size+2:=by rw [<- hw0];simp
 have hb0:Below w.heap.size w w0:=by rw [<- hw0];exact ((Below.refl _ w).alloc (Nat.le_refl _) _).alloc (by simp) _
 have bD:w0.heap[w.heap.size]?=some (.cells #[.int .i64 k,.int .i64 a,.int .i64 b] 24 (0,0)):=by rw [<- hw0];exact (Below.heap_alloc _ _ _ (by simp)).trans (heap_alloc_new _ _)
 have bR:w0.heap[w.heap.size+1]?=some (.cells #[.string ⟨#[]⟩,.int .i64 0] 54 (0,0)):=by
  rw [<- hw0]
  have h:=heap_alloc_new (w.alloc (.cells #[.int .i64 k,.int .i64 a,.int .i64 b] 24)) (.cells #[.string ⟨#[]⟩,.int .i64 0] 54)
  rwa [show (w.alloc (.cells #[.int .i64 k,.int .i64 a,.int .i64 b] 24)).heap.size=w.heap.size+1 by simp] at h
 clear hk
 go_enter Tryd.func33,Tryd.ntmps33
 go_wp2_with fail
 refine (c_deedForms _).mono ?_
 rintro e w1 ⟨rfl,hb1⟩
 have hz1:=hb1.size
 have hx:=hb1.alloc hz1 (.cells #[.string ⟨#[99,111,109,101]⟩,.int .i64 2,.string ⟨#[103,111]⟩,.int .i64 0,.string ⟨#[110,101,101,100]⟩,.int .i64 1,.string ⟨#[108,97,116,101,114]⟩,.int .i64 1,.string ⟨#[98,97,99,107]⟩,.int .i64 0] 66)
 have c0:=cell_of_row _ w.heap.size 0 _ _ _ ((hx.block w.heap.size (by omega)).trans bD)
 go_wp2_with fail
 refine (c_within _ _ _ _).mono ?_
 rintro e w' ⟨rfl,rfl⟩
 rw [HD.out]
 obtain ⟨w2,hw2⟩:∃ w2,w1.alloc (.cells #[.string ⟨#[99,111,109,101]⟩,.int .i64 2,.string ⟨#[103,111]⟩,.int .i64 0,.string ⟨#[110,101,101,100]⟩,.int .i64 1,.string ⟨#[108,97,116,101,114]⟩,.int .i64 1,.string ⟨#[98,97,99,107]⟩,.int .i64 0] 66)=w2:=⟨_,rfl⟩
 rw [hw2]
 rw [hw2] at hx
 clear hw2 c0
 have b6:=(hx.block (w.heap.size+1) (by omega)).trans bR
 have r0:=cell_of_row _ (w.heap.size+1) 0 _ _ _ b6
 have r1:=cell_of_row _ (w.heap.size+1) 1 _ _ _ b6
 have f0:w2.frozen? ⟨w.heap.size+1,0,none⟩=false:=unfrozenB b6
 have f1:w2.frozen? ⟨w.heap.size+1,1,none⟩=false:=unfrozenB b6
 go_wp2_with fail
 obtain ⟨k0,k1⟩:=put2 (.string ⟨#[]⟩) (.int .i64 0) b6
 refine bodyPost_ret (v:=.tuple #[.agg #[.string ⟨#[]⟩,.int .i64 0],.bool false]) (by simp [results,Tryd.f33,go_sem,k0,k1]) rfl ?_
 exact ⟨⟨_,by rw [HV.out],fun h=>absurd h HK.out,_,_,rfl⟩,((hb0.trans (hx.mono (by omega))).setCell (p:=⟨w.heap.size+1,0,none⟩) (by simp) _).setCell (p:=⟨w.heap.size+1,1,none⟩) (by simp) _⟩
theorem c_form (k a b:Int) (w:World) :
  Calls Tryd.prog 33 #[.agg #[.int .i64 k,.int .i64 a,.int .i64 b]] w fun e w'=>(∃ f,e=.returned (.tuple #[f,.bool (formOk k a b)])∧(0<=k∧k<=4->f=formVal k)∧∃ W n,f=.agg #[.string W,.int .i64 n])∧Below w.heap.size w w':=by
 by_cases hk:0<=k∧k<=4
 ·have hkk:k=0∨k=1∨k=2∨k=3∨k=4:=by omega
  rcases hkk with rfl | rfl | rfl | rfl | rfl
  ·exact (c_form2 0 _ a b (by omega) ⟨rfl,rfl⟩ w).mono fun e w' h=>⟨⟨formVal 0,by rw [h.1];simp [formOk];rfl,fun _=>rfl,_,_,rfl⟩,h.2⟩
  ·exact (c_form0 1 _ a b (by omega) ⟨rfl,rfl⟩ w).mono fun e w' h=>⟨⟨formVal 1,by rw [h.1];simp [formOk];rfl,fun _=>rfl,_,_,rfl⟩,h.2⟩
  ·exact (c_form1 2 _ a b (by omega) ⟨rfl,rfl⟩ w).mono fun e w' h=>⟨⟨formVal 2,by rw [h.1];simp [formOk];rfl,fun _=>rfl,_,_,rfl⟩,h.2⟩
  ·exact (c_form1 3 _ a b (by omega) ⟨rfl,rfl⟩ w).mono fun e w' h=>⟨⟨formVal 3,by rw [h.1];simp [formOk];rfl,fun _=>rfl,_,_,rfl⟩,h.2⟩
  ·exact (c_form0 4 _ a b (by omega) ⟨rfl,rfl⟩ w).mono fun e w' h=>⟨⟨formVal 4,by rw [h.1];simp [formOk];rfl,fun _=>rfl,_,_,rfl⟩,h.2⟩
 ·exact c_formNo k a b hk w
end Go.Proofs.YticccnkanihpnaaDoor
namespace Go.Proofs
open Go.Shelf
open Go.RowKit Go.Sort Go.Lib in
def Tryd.lays171_ren:Go.Shelf.Ren:=⟨fun | 171=>36 | 243=>56 | 246=>64 | 283=>71 | 284=>72 | 285=>73 | 286=>74 | 129=>85 | 317=>84 | 318=>86 | 319=>87 | 320=>88 | 337=>97 | 338=>98 | n=>n,fun | 3=>3 | 9=>9 | 2=>2 | 4=>4 | 171=>103 | 0=>0 | 53=>104 | 37=>22 | 5=>5 | 173=>107 | 212=>115 | 51=>116 | 20=>20 | 213=>117 | 46=>113 | 232=>138 | 233=>139 | n=>n,fun | 17=>1 | 18=>6 | 19=>7 | n=>n⟩
theorem Tryd.lays171:Go.Proofs.Lays.n171 Tryd.prog Tryd.lays171_ren:={
 mixed:=by kernel_rfl
 f129:=Tryd.func85.trans (congrArg some (by kernel_rfl))
 f171:=Tryd.func36.trans (congrArg some (by kernel_rfl))
 f243:=Tryd.func56.trans (congrArg some (by kernel_rfl))
 f246:=Tryd.func64.trans (congrArg some (by kernel_rfl))
 f283:=Tryd.func71.trans (congrArg some (by kernel_rfl))
 f284:=Tryd.func72.trans (congrArg some (by kernel_rfl))
 f285:=Tryd.func73.trans (congrArg some (by kernel_rfl))
 f286:=Tryd.func74.trans (congrArg some (by kernel_rfl))
 f317:=Tryd.func84.trans (congrArg some (by kernel_rfl))
 f318:=Tryd.func86.trans (congrArg some (by kernel_rfl))
 f319:=Tryd.func87.trans (congrArg some (by kernel_rfl))
 f320:=Tryd.func88.trans (congrArg some (by kernel_rfl))
 f337:=Tryd.func97.trans (congrArg some (by kernel_rfl))
 f338:=Tryd.func98.trans (congrArg some (by kernel_rfl))
 t0:=Tryd.underlying0
 a0:=Tryd.isAgg0
 z0:=Tryd.sizeOf0
 v0:=Tryd.zeroValue0
 t2:=Tryd.underlying2
 a2:=Tryd.isAgg2
 z2:=Tryd.sizeOf2
 v2:=Tryd.zeroValue2
 t3:=Tryd.underlying3
 a3:=Tryd.isAgg3
 z3:=Tryd.sizeOf3
 v3:=Tryd.zeroValue3
 t4:=Tryd.underlying4
 a4:=Tryd.isAgg4
 z4:=Tryd.sizeOf4
 v4:=Tryd.zeroValue4
 t5:=Tryd.underlying5
 a5:=Tryd.isAgg5
 z5:=Tryd.sizeOf5
 v5:=Tryd.zeroValue5
 t9:=Tryd.underlying9
 a9:=Tryd.isAgg9
 z9:=Tryd.sizeOf9
 v9:=Tryd.zeroValue9
 t20:=Tryd.underlying20
 a20:=Tryd.isAgg20
 z20:=Tryd.sizeOf20
 v20:=Tryd.zeroValue20
 t37:=Tryd.underlying22
 a37:=Tryd.isAgg22
 z37:=Tryd.sizeOf22
 v37:=Tryd.zeroValue22
 t46:=Tryd.underlying113
 a46:=Tryd.isAgg113
 z46:=Tryd.sizeOf113
 v46:=Tryd.zeroValue113
 t51:=Tryd.underlying116
 a51:=Tryd.isAgg116
 z51:=Tryd.sizeOf116
 v51:=Tryd.zeroValue116
 t53:=Tryd.underlying104
 a53:=Tryd.isAgg104
 z53:=Tryd.sizeOf104
 v53:=Tryd.zeroValue104
 t171:=Tryd.underlying103
 a171:=Tryd.isAgg103
 z171:=Tryd.sizeOf103
 v171:=Tryd.zeroValue103
 t173:=Tryd.underlying107
 a173:=Tryd.isAgg107
 z173:=Tryd.sizeOf107
 v173:=Tryd.zeroValue107
 t212:=Tryd.underlying115
 a212:=Tryd.isAgg115
 z212:=Tryd.sizeOf115
 v212:=Tryd.zeroValue115
 t213:=Tryd.underlying117
 a213:=Tryd.isAgg117
 z213:=Tryd.sizeOf117
 t232:=Tryd.underlying138
 a232:=Tryd.isAgg138
 z232:=Tryd.sizeOf138
 v232:=Tryd.zeroValue138
 t233:=Tryd.underlying139
 a233:=Tryd.isAgg139
 z233:=Tryd.sizeOf139
 v233:=Tryd.zeroValue139
 g17:=by kernel_rfl
 g18:=by kernel_rfl
 g19:=by kernel_rfl }
open Go.RowKit Go.Sort Go.Lib in
theorem Tryd.strconv_Itoa_small (i:Nat) (hi:i < 100) (w:World) :
  Calls Tryd.prog 36 #[.int .i64 i] w fun e w'=>e=.returned (.string ⟨(Lib.decDigits i).toArray⟩)∧w'=w:=Any.strconv_Itoa_small Tryd.lays171 i hi w
end Go.Proofs
namespace Go.Proofs.YticccnkanihpnaaDoor
set_option linter.unusedVariables false
open Go.RowKit
theorem dec_num:∀ n,Lib.decDigits n=numL n:=by
 intro n
 induction n using Nat.strongRecOn with
 | _ n ih =>
  rw [Lib.decDigits,numL]
  by_cases h:n < 10
  ·rw [dif_pos h,if_pos h,dig8,Nat.mod_eq_of_lt h]
  ·rw [dif_neg h,if_neg h,ih (n / 10) (by omega),dig8]
theorem c_itoaSmall (n:Nat) (w:World) (hn:n < 100) :
  Calls Tryd.prog 36 #[.int .i64 (n:Int)] w fun e w'=>e=.returned (.string (bs (numL n)))∧w=w' :=
 (Tryd.strconv_Itoa_small n hn w).mono fun e w' ⟨he,hw⟩=>by
   rw [dec_num] at he
   exact ⟨he,hw.symm⟩
end Go.Proofs.YticccnkanihpnaaDoor
namespace Go.Proofs.YticccnkanihpnaaDoor
set_option linter.unusedVariables false
open Go.RowKit
def wordJ:Nat->List UInt8
 | 0=>wCome
 | 1=>wGo
 | 2=>wNeed
 | 3=>wLater
 | _=>wBack
def numJ:Nat->Nat
 | 0=>2
 | 1=>0
 | 2=>1
 | 3=>1
 | _=>0
end Go.Proofs.YticccnkanihpnaaDoor
namespace Go.Proofs.YticccnkanihpnaaDoor
set_option linter.unusedVariables false
open Go.RowKit
attribute [local go_sem ↓] Go.wp_at_zero Go.wp_at_succ
def tailTo (xs:List Int):Nat->List UInt8
 | 0=>[]
 | k+1=>tailTo xs k++([32]++numL (Z xs k).toNat)
theorem formVal_at {k:Nat} (hk:k<=4):formVal (k:Int)=.agg #[.string (bs (wordJ k)),.int .i64 (numJ k:Int)]∧numJ k<=2∧(wordJ k).length<=5:=by
 have hk':k=0∨k=1∨k=2∨k=3∨k=4:=by omega
 rcases hk' with rfl | rfl | rfl | rfl | rfl <;> exact ⟨rfl,by decide,by decide⟩
theorem formOk_range {k a b:Int} (h:formOk k a b=true):0<=k∧k<=4:=by
 simp only [formOk,Bool.or_eq_true,Bool.and_eq_true,decide_eq_true_eq] at h
 omega
theorem deedL_form {k a b:Int} (h:formOk k a b=false):deedL ⟨k,a,b⟩=[]:=by
 simp only [formOk,Bool.or_eq_false_iff,Bool.and_eq_false_iff,decide_eq_false_iff_not] at h
 exact deedL_none (by omega) (by omega) (by omega) (by omega) (by omega)
theorem deedL_in {k:Nat} {a b:Int} (h:formOk k a b=true) (hn:∀ j,j < numJ k->0<=Z [a,b] j∧Z [a,b] j<=99):deedL ⟨k,a,b⟩=wordJ k++tailTo [a,b] (numJ k):=by
 have hr:=formOk_range h
 have hk':k=0∨k=1∨k=2∨k=3∨k=4:=by omega
 simp only [formOk,Bool.or_eq_true,Bool.and_eq_true,decide_eq_true_eq] at h
 rcases hk' with rfl | rfl | rfl | rfl | rfl
 ·have h0:=hn 0 (by decide)
  have h1:=hn 1 (by decide)
  have e:=deedL_come (a:=a) (b:=b) h0 h1
  refine Eq.trans e ?_
  simp [wordJ,numJ,tailTo,Z]
 ·obtain ⟨rfl,rfl⟩:a=0∧b=0:=by omega
  decide
 ·have h0:=hn 0 (by decide)
  obtain rfl:b=0:=by omega
  refine Eq.trans (deedL_need h0) ?_
  simp [wordJ,numJ,tailTo,Z]
 ·have h0:=hn 0 (by decide)
  obtain rfl:b=0:=by omega
  refine Eq.trans (deedL_later h0) ?_
  simp [wordJ,numJ,tailTo,Z]
 ·obtain ⟨rfl,rfl⟩:a=0∧b=0:=by omega
  decide
theorem deedL_out {k:Nat} {a b:Int} {j:Nat} (hj:j < numJ k) (hk:k<=4) (hn:¬ (0<=Z [a,b] j∧Z [a,b] j<=99)):deedL ⟨k,a,b⟩=[]:=by
 have hk':k=0∨k=1∨k=2∨k=3∨k=4:=by omega
 have h0:Z [a,b] 0=a:=rfl
 have h1:Z [a,b] 1=b:=rfl
 rcases hk' with rfl | rfl | rfl | rfl | rfl
 ·have hj':j=0∨j=1:=by simp only [numJ] at hj;omega
  rcases hj' with rfl | rfl
  ·rw [h0] at hn
   exact deedL_none (by omega) (by omega) (by omega) (by omega) (by omega)
  ·rw [h1] at hn
   exact deedL_none (by omega) (by omega) (by omega) (by omega) (by omega)
 ·simp [numJ] at hj
 ·obtain rfl:j=0:=by simp only [numJ] at hj;omega
  rw [h0] at hn
  exact deedL_none (by omega) (by omega) (by omega) (by omega) (by omega)
 ·obtain rfl:j=0:=by simp only [numJ] at hj;omega
  rw [h0] at hn
  exact deedL_none (by omega) (by omega) (by omega) (by omega) (by omega)
 ·simp [numJ] at hj
theorem tailTo_len {a b:Int} {k:Nat} (h:∀ j,j < k->0<=Z [a,b] j∧Z [a,b] j<=99):(tailTo [a,b] k).length<=3 * k:=by
 induction k with
 | zero=>simp [tailTo]
 | succ k ih =>
  have h1:=ih (fun j hj=>h j (by omega))
  have h2:=h k (by omega)
  have h3:=numL_len 1 (Z [a,b] k).toNat (by omega)
  simp only [tailTo,List.length_append,List.length_singleton]
  omega
set_option maxRecDepth 8000 in
set_option maxHeartbeats 4000000 in
theorem c_iDeedText (k a b:Int) (w:World) :
  Calls Tryd.prog 11 #[.agg #[.int .i64 k,.int .i64 a,.int .i64 b]] w fun e w'=>e=.returned (.string (bs (deedL ⟨k,a,b⟩)))∧Below w.heap.size w w':=by
 obtain ⟨w0,hw0⟩:∃ w0,w.alloc (.cells #[.int .i64 k,.int .i64 a,.int .i64 b] 24)=w0:=⟨_,rfl⟩
 have hz0:w.heap.size < w0.heap.size:=by rw [<- hw0];simp
 have hb0:Below w.heap.size w w0:=by rw [<- hw0];exact (Below.refl _ w).alloc (Nat.le_refl _) _
 have bD:w0.heap[w.heap.size]?=some (.cells #[.int .i64 k,.int .i64 a,.int .i64 b] 24 (0,0)):=by rw [<- hw0];exact heap_alloc_new _ _
 have HS:=Lib.hid (fun (W':World) (hb:Below w0.heap.size w0 W')=>show W'.cell? ⟨w.heap.size,0,none⟩=some (.int .i64 k)∧W'.cell? ⟨w.heap.size,1,none⟩=some (.int .i64 a)∧W'.cell? ⟨w.heap.size,2,none⟩=some (.int .i64 b) from by
  have b:=(hb.block w.heap.size hz0).trans bD
  exact ⟨cell_of_row _ w.heap.size 0 _ _ _ b,cell_of_row _ w.heap.size 1 _ _ _ b,cell_of_row _ w.heap.size 2 _ _ _ b⟩)
 have HF:=Lib.hid (fun W=>c_form k a b W)
 obtain ⟨c0,c1,c2⟩:=HS.out _ (Below.refl _ w0)
 clear bD
 cases ho:formOk k a b with
 | false =>
  have HO:=Lib.hid ho
  have HV:=Lib.hid (deedL_form ho)
  clear ho
  go_enter Tryd.func11,Tryd.ntmps11
  go_wp2_with fail
  refine (HF.out _).mono ?_
  rintro e w1 ⟨⟨f,rfl,-,W,n,rfl⟩,hb1⟩
  rw [HO.out]
  clear c0 c1 c2 hw0
  go_wp2_with fail
  go_ret
  exact ⟨by rw [HV.out];rfl,hb0.trans ((hb1.alloc hb1.size _).mono (by omega))⟩
 | true =>
  have hr:=formOk_range ho
  obtain ⟨j,rfl⟩:∃ j:Nat,k=(j:Int):=⟨k.toNat,by omega⟩
  have HO:=Lib.hid ho
  obtain ⟨hfv,hn2,hw5⟩:=formVal_at (k:=j) (by omega)
  have HFV:=Lib.hid hfv
  have HIn:=Lib.hid (fun hn=>deedL_in (k:=j) (a:=a) (b:=b) ho hn)
  have HOut:=Lib.hid (fun (i:Nat) (hi:i < numJ j) hn=>deedL_out (k:=j) (a:=a) (b:=b) hi (by omega) hn)
  have HR:=Lib.hid hr
  clear ho hfv hr
  generalize hW:wordJ j=W at *
  generalize hN:numJ j=n at *
  clear hW hN
  have p1:(0:Int)<=(n:Int):=by omega
  have p2:(n:Int)<=2:=by omega
  go_enter Tryd.func11,Tryd.ntmps11
  go_wp2_with fail
  refine (HF.out _).mono ?_
  rintro e w1 ⟨⟨f,rfl,hf,-⟩,hb1⟩
  rw [HO.out,hf HR.out,HFV.out]
  clear hf c0 c1 c2 hw0
  go_wp2_with fail
  obtain ⟨w2,hw2⟩:∃ w2,w1.alloc (.cells #[.string (bs W),.int .i64 (n:Int)] 54)=w2:=⟨_,rfl⟩
  have hb2:Below w1.heap.size w1 w2:=by rw [<- hw2];exact (Below.refl _ w1).alloc (Nat.le_refl _) _
  have bG:w2.heap[w1.heap.size]?=some (.cells #[.string (bs W),.int .i64 (n:Int)] 54 (0,0)):=by rw [<- hw2];exact heap_alloc_new _ _
  have hz2:w1.heap.size < w2.heap.size:=by rw [<- hw2];simp
  rw [hw2]
  have hx2:=hb1.trans (hb2.mono hb1.size)
  have HG:=Lib.hid (fun (W':World) (hb:Below w2.heap.size w2 W')=>show W'.cell? ⟨w.heap.size,0,none⟩=some (.int .i64 (j:Int))∧W'.cell? ⟨w.heap.size,1,none⟩=some (.int .i64 a)∧W'.cell? ⟨w.heap.size,2,none⟩=some (.int .i64 b)∧W'.cell? ⟨w1.heap.size,0,none⟩=some (.string (bs W))∧W'.cell? ⟨w1.heap.size,1,none⟩=some (.int .i64 (n:Int)) from by
   have b:=(hb.block w1.heap.size hz2).trans bG
   obtain ⟨s0,s1,s2⟩:=HS.out W' (hx2.trans (hb.mono hx2.size))
   exact ⟨s0,s1,s2,cell_of_row _ w1.heap.size 0 _ _ _ b,cell_of_row _ w1.heap.size 1 _ _ _ b⟩)
  obtain ⟨g0,g1,g2,g3,g4⟩:=HG.out _ (Below.refl _ w2)
  have hd2:Below w2.heap.size w2 w2.drew:=(Below.refl _ w2).drew
  have HX:=Lib.hid (hb0.trans (hx2.mono (show w.heap.size<=w0.heap.size by omega)))
  clear bG hb2 hb1 hw2 hx2
  go_region_held3 (fun W'=>W'.cell? ⟨w.heap.size,0,none⟩=some (.int .i64 (j:Int))∧W'.cell? ⟨w.heap.size,1,none⟩=some (.int .i64 a)∧W'.cell? ⟨w.heap.size,2,none⟩=some (.int .i64 b)∧W'.cell? ⟨w1.heap.size,0,none⟩=some (.string (bs W))∧W'.cell? ⟨w1.heap.size,1,none⟩=some (.int .i64 (n:Int)))
   (first
     | exact HG.out _ hx6
     | go_keep)
   (first
     | (go_at_call 34;refine (c_numbers _ _ _ _).mono ?_;rintro e w6 ⟨g,rfl,e0,e1,hg,hb6⟩;have hx6:Below w2.heap.size w2 w6:=hd2.trans hb6)
     | fail)
  have HC:=Lib.hid (fun (i:Nat) (hi:i < 2)=>show w6.cell? ⟨g,i,none⟩=some (.int .i64 (Z [a,b] i)) by
   have hi':i=0∨i=1:=by omega
   rcases hi' with rfl | rfl
   ·exact e0
   ·exact e1)
  have HY:=Lib.hid (HX.out.trans (hx6.mono HX.out.size))
  clear g0 g1 g2 g3 g4 e0 e1 hx6 hb6 hd2
  go_wp2_with fail
  go_loopw [5,23] (fun s i wr=>∃ q:Nat,q<=n∧i=.int .i64 (q:Int)∧s=.string (bs (W++tailTo [a,b] q))∧Hid (∀ i,i < q->0<=Z [a,b] i∧Z [a,b] i<=99)∧Below w6.heap.size w6 wr) (fun _ i _=>n - (intOf i).toNat)
  case atStart=>exact ⟨0,by omega,rfl,by simp [tailTo],Lib.hid (fun i hi=>by omega),Below.refl _ _⟩
  case round =>
   obtain ⟨q,hq,rfl,rfl,HN,hb⟩:=hrel
   have hsz:=hb.size
   have hyw:=HY.out.trans (hb.mono HY.out.size)
   by_cases hlt:q < n
   ·have d1:=(hb.cell (p:=⟨g,q,none⟩) hg).trans (HC.out q (by omega))
    have q1:(0:Int)<=(q:Int):=by omega
    have q2:(q:Int) < (n:Int):=by omega
    have hlen:=tailTo_len HN.out
    by_cases hz:0<=Z [a,b] q∧Z [a,b] q<=99
    ·have HD:=Lib.hid (decide_eq_true hz)
     have hn1:=numL_len 1 (Z [a,b] q).toNat (by omega)
     have HIt:=Lib.hid (fun W'=>show Calls Tryd.prog 36 #[.int .i64 (Z [a,b] q)] W' fun e w'=>e=.returned (.string (bs (numL (Z [a,b] q).toNat)))∧W'=w' from by
      have K:=c_itoaSmall (Z [a,b] q).toNat W' (by omega)
      rwa [show (((Z [a,b] q).toNat:Nat):Int)=Z [a,b] q by omega] at K)
     have y1:¬ (9223372036854775807 < 1+(bs (numL (Z [a,b] q).toNat)).size):=by rw [bs_size];omega
     have y2:¬ (9223372036854775807 < (bs (W++tailTo [a,b] q)).size+(1+(bs (numL (Z [a,b] q).toNat)).size)):=by rw [bs_size,bs_size,List.length_append];omega
     have HV:=Lib.hid (show bs (W++tailTo [a,b] q)++(⟨#[32]⟩++bs (numL (Z [a,b] q).toNat))=bs (W++tailTo [a,b] (q+1)) by
      rw [show (⟨#[32]⟩:ByteArray)=bs [32] from rfl,bs_append,bs_append];simp [tailTo])
     have HN2:=Lib.hid (show ∀ i,i < q+1->0<=Z [a,b] i∧Z [a,b] i<=99 from fun i hi=>by
      rcases Nat.lt_succ_iff_lt_or_eq.1 hi with h | rfl
      ·exact HN.out i h
      ·exact hz)
     clear hz hn1 hlen
     go_wp2_with fail
     refine (c_within _ _ _ _).mono ?_
     rintro e w' ⟨rfl,rfl⟩
     rw [HD.out]
     go_wp2_with fail
     refine (HIt.out _).mono ?_
     rintro e w' ⟨rfl,rfl⟩
     go_wp2_with fail
     go_roundw
     case rel=>exact ⟨q+1,by omega,by go_num,by rw [<- HV.out],HN2,hb⟩
     case measure=>simp [intOf];omega
    ·have HD:=Lib.hid (decide_eq_false hz)
     have HV:=Lib.hid (HOut.out q hlt hz)
     clear hz hlen
     go_wp2_with fail
     refine (c_within _ _ _ _).mono ?_
     rintro e w' ⟨rfl,rfl⟩
     rw [HD.out]
     go_wp2_with fail
     go_ret
     exact ⟨by rw [HV.out];rfl,hyw⟩
   ·have q2:¬ (q:Int) < (n:Int):=by omega
    obtain rfl:q=n:=by omega
    have HV:=Lib.hid (HIn.out HN.out)
    go_wp2_with fail
    go_ret
    exact ⟨by rw [HV.out];rfl,hyw⟩
end Go.Proofs.YticccnkanihpnaaDoor
namespace Go.Proofs.YticccnkanihpnaaDoor
set_option linter.unusedVariables false
open Go.RowKit
attribute [local go_sem ↓] Go.wp_at_zero Go.wp_at_succ
theorem forms_ix0 (w:World):(Instr.index 66 (.agg #[.string ⟨#[99,111,109,101]⟩,.int .i64 2,.string ⟨#[103,111]⟩,.int .i64 0,.string ⟨#[110,101,101,100]⟩,.int .i64 1,.string ⟨#[108,97,116,101,114]⟩,.int .i64 1,.string ⟨#[98,97,99,107]⟩,.int .i64 0]) (.int .i64 0)).run Tryd.prog w=.ok (.agg #[.string ⟨#[99,111,109,101]⟩,.int .i64 2]) w:=by kernel_rfl
theorem forms_ix1 (w:World):(Instr.index 66 (.agg #[.string ⟨#[99,111,109,101]⟩,.int .i64 2,.string ⟨#[103,111]⟩,.int .i64 0,.string ⟨#[110,101,101,100]⟩,.int .i64 1,.string ⟨#[108,97,116,101,114]⟩,.int .i64 1,.string ⟨#[98,97,99,107]⟩,.int .i64 0]) (.int .i64 1)).run Tryd.prog w=.ok (.agg #[.string ⟨#[103,111]⟩,.int .i64 0]) w:=by kernel_rfl
theorem forms_ix2 (w:World):(Instr.index 66 (.agg #[.string ⟨#[99,111,109,101]⟩,.int .i64 2,.string ⟨#[103,111]⟩,.int .i64 0,.string ⟨#[110,101,101,100]⟩,.int .i64 1,.string ⟨#[108,97,116,101,114]⟩,.int .i64 1,.string ⟨#[98,97,99,107]⟩,.int .i64 0]) (.int .i64 2)).run Tryd.prog w=.ok (.agg #[.string ⟨#[110,101,101,100]⟩,.int .i64 1]) w:=by kernel_rfl
theorem forms_ix3 (w:World):(Instr.index 66 (.agg #[.string ⟨#[99,111,109,101]⟩,.int .i64 2,.string ⟨#[103,111]⟩,.int .i64 0,.string ⟨#[110,101,101,100]⟩,.int .i64 1,.string ⟨#[108,97,116,101,114]⟩,.int .i64 1,.string ⟨#[98,97,99,107]⟩,.int .i64 0]) (.int .i64 3)).run Tryd.prog w=.ok (.agg #[.string ⟨#[108,97,116,101,114]⟩,.int .i64 1]) w:=by kernel_rfl
theorem forms_ix4 (w:World):(Instr.index 66 (.agg #[.string ⟨#[99,111,109,101]⟩,.int .i64 2,.string ⟨#[103,111]⟩,.int .i64 0,.string ⟨#[110,101,101,100]⟩,.int .i64 1,.string ⟨#[108,97,116,101,114]⟩,.int .i64 1,.string ⟨#[98,97,99,107]⟩,.int .i64 0]) (.int .i64 4)).run Tryd.prog w=.ok (.agg #[.string ⟨#[98,97,99,107]⟩,.int .i64 0]) w:=by kernel_rfl
attribute [local go_sem ↓] forms_ix0 forms_ix1 forms_ix2 forms_ix3 forms_ix4
end Go.Proofs.YticccnkanihpnaaDoor
namespace Go.Proofs.YticccnkanihpnaaDoor
set_option linter.unusedVariables false
open Go.RowKit
attribute [local go_sem ↓] Go.wp_at_zero Go.wp_at_succ
set_option maxHeartbeats 1000000 in
theorem c_toDeed (k a b:Int) (w:World) :
  Calls Tryd.prog 22 #[.agg #[.int .i64 k,.int .i64 a,.int .i64 b]] w fun e w'=>e=.returned (.agg #[.int .i64 k,.int .i64 a,.int .i64 b])∧Below w.heap.size w w':=by
 go_enter Tryd.func22,Tryd.ntmps22
 go_wp2
 exact bodyPost_ret (v:=.agg #[.int .i64 k,.int .i64 a,.int .i64 b]) (by simp [results,Tryd.results22,go_sem]) rfl ⟨rfl,by (repeat (first | exact rfl | exact Below.refl _ _ | (with_reducible refine Below.drew ?_) | (with_reducible refine Below.drewN ?_ _) | (with_reducible refine Below.alloc ?_ ?_ _) | (with_reducible refine Below.setCell ?_ ?_ _) | (show _<=_;focus (first | omega | (simp;done) | (simp;omega)))))⟩
end Go.Proofs.YticccnkanihpnaaDoor
namespace Go.Proofs.YticccnkanihpnaaDoor
set_option linter.unusedVariables false
open Go.RowKit
attribute [local go_sem ↓] Go.wp_at_zero Go.wp_at_succ
structure DdAt (w wx:World) (base r B q:Nat) (k a b:Int):Prop where
 deed:wx.heap[B]?=some (.cells #[.int .i64 k,.int .i64 a,.int .i64 b] 24 (0,0))
 res:wx.heap[w.heap.size]?=some (.cells #[.int .i64 0,.int .i64 0,.int .i64 0] 24 (0,0))
 grown:w.grownBy wx (some r)
 rd:Rd wx base r q
 hr:r < w.heap.size
 hB:w.heap.size < B
theorem DdAt.below {w wx w':World} {base r B q:Nat} {k a b:Int} (h:DdAt w wx base r B q k a b) (hb:Below wx.heap.size wx w'):DdAt w w' base r B q k a b:=by
 have h1:=h.hr
 have h2:=h.hB
 have h3:=h.grown.size
 have h4:=h.rd.1
 exact ⟨(hb.block _ (Array.getElem?_eq_some_iff.1 h.deed).1).trans h.deed,(hb.block _ (Array.getElem?_eq_some_iff.1 h.res).1).trans h.res,grown_thenB h.grown (hb.mono h3),h.rd.keepB hb (by omega) (by omega),h.hr,h.hB⟩
theorem DdAt.cells {w wx:World} {base r B q:Nat} {k a b:Int} (h:DdAt w wx base r B q k a b):wx.cell? ⟨B,0,none⟩=some (.int .i64 k)∧wx.cell? ⟨B,1,none⟩=some (.int .i64 a)∧wx.cell? ⟨B,2,none⟩=some (.int .i64 b)∧wx.frozen? ⟨B,1,none⟩=false∧wx.frozen? ⟨B,2,none⟩=false :=
 ⟨cell_of_row _ B 0 _ _ _ h.deed,cell_of_row _ B 1 _ _ _ h.deed,cell_of_row _ B 2 _ _ _ h.deed,unfrozen_of h.deed,unfrozen_of h.deed⟩
end Go.Proofs.YticccnkanihpnaaDoor
namespace Go.Proofs.YticccnkanihpnaaDoor
set_option linter.unusedVariables false
open Go.RowKit
attribute [local go_sem ↓] Go.wp_at_zero Go.wp_at_succ
set_option maxRecDepth 8000 in
set_option maxHeartbeats 2000000 in
theorem w_FnExactDeedText (k a b:Int) (w:World) :
  Calls Tryd.prog 6 #[.agg #[.int .i64 k,.int .i64 a,.int .i64 b]] w fun e w'=>e=.returned (.bool true)∧Below w.heap.size w w':=by
 have hb0:Below w.heap.size w (w.alloc (.cells #[.int .i64 k,.int .i64 a,.int .i64 b] 38)):=(Below.refl _ w).alloc (Nat.le_refl _) _
 have hz0:(w.alloc (.cells #[.int .i64 k,.int .i64 a,.int .i64 b] 38)).heap.size=w.heap.size+1:=by simp
 have b0:=heap_alloc_new w (.cells #[.int .i64 k,.int .i64 a,.int .i64 b] 38)
 have HC:=Lib.hid (fun W (hb:Below (w.heap.size+1) (w.alloc (.cells #[.int .i64 k,.int .i64 a,.int .i64 b] 38)) W)=>show W.cell? ⟨w.heap.size,0,none⟩=some (.int .i64 k)∧W.cell? ⟨w.heap.size,1,none⟩=some (.int .i64 a)∧W.cell? ⟨w.heap.size,2,none⟩=some (.int .i64 b) from
  ⟨cell_of_row _ _ 0 _ _ _ ((hb.block w.heap.size (by omega)).trans b0),cell_of_row _ _ 1 _ _ _ ((hb.block w.heap.size (by omega)).trans b0),cell_of_row _ _ 2 _ _ _ ((hb.block w.heap.size (by omega)).trans b0)⟩)
 have HT:=Lib.hid (fun W=>c_iDeedText k a b W)
 have HS:=Lib.hid (fun W=>c_sDeedText k a b W)
 have HD:=Lib.hid (fun W=>c_toDeed k a b W)
 generalize deedL ⟨k,a,b⟩=l at HT HS
 have hne:((bs l).toList != (bs l).toList)=false:=by simp
 clear b0
 go_enter Tryd.func6,Tryd.ntmps6
 go_wp2_with fail
 refine (HD.out _).mono ?_
 rintro e w1 ⟨rfl,hb1⟩
 rw [hz0] at hb1
 go_wp2_with fail
 refine (HS.out _).mono ?_
 rintro e w2 ⟨rfl,hb2⟩
 have hx2:=hb1.trans (hb2.mono (by have:=hb1.size;rw [hz0] at this;exact this))
 obtain ⟨q0,q1,q2⟩:=HC.out _ hx2
 have hs2:w.heap.size+1<=w2.heap.size:=by have:=hx2.size;rw [hz0] at this;exact this
 go_wp2_with fail
 refine (HD.out _).mono ?_
 rintro e w3 ⟨rfl,hb3⟩
 have hx3:=hx2.trans (hb3.mono hs2)
 go_wp2_with fail
 refine (HT.out _).mono ?_
 rintro e w4 ⟨rfl,hb4⟩
 have hx4:=hx3.trans (hb4.mono (by have:=hb3.size;omega))
 go_wp2_with fail
 go_ret
 exact ⟨rfl,hb0.trans (hx4.mono (by omega))⟩
end Go.Proofs.YticccnkanihpnaaDoor
namespace Go.Proofs.YticccnkanihpnaaDoor
set_option linter.unusedVariables false
open Go.RowKit Go.ChangeShapes Go.WideShapes Go.ChangeAt Go.Deep Go.Joins
set_option maxRecDepth 8000 in
theorem open_lawDeed {H:Type} {enc:TypeId×Value->H} {W:World} {r:Reach} {b0:Nat} {v:Value} {d:DataW H} {p:List MemPlace} (hv:Value.okWide Tryd.prog W r b0 38 v)
  (h:DataW.Trod enc Tryd.prog W 0 (fun _=>true) true 38 v d p):∃ k a b:Int,v=.agg #[.int .i64 k,.int .i64 a,.int .i64 b]:=by
 obtain ⟨c0,c1,c2,y0,y1,y2,n,rfl,-,-,t0,t1,t2⟩:=open_agg3 Tryd.underlying38 (by kernel_rfl) (by kernel_rfl) hv h
 obtain ⟨x0,e0,-⟩:=DataW.trod_int Tryd.underlying3 t0
 obtain ⟨x1,e1,-⟩:=DataW.trod_int Tryd.underlying3 t1
 obtain ⟨x2,e2,-⟩:=DataW.trod_int Tryd.underlying3 t2
 simp at e0 e1 e2
 exact ⟨x0,x1,x2,by rw [e0,e1,e2]⟩
end Go.Proofs.YticccnkanihpnaaDoor

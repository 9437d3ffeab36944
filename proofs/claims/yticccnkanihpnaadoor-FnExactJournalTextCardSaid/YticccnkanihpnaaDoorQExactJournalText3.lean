import Derived.Test.YticccnkanihpnaaDoorQExactJournalText1
import Derived.Test.YticccnkanihpnaaDoorQExactJournalText2
import Derived.Lib.AtoiTie
import Derived.WalkKit
import Derived.Laws.CopyRow
import Derived.Laws.IdiomCopy
import Derived.Deep.Upon
import Derived.OwnWalk
import Derived.Laws.Tables
import Derived.RegionCalls
import Derived.Lib.SliceRun
import Derived.ProofKit
import Derived.OpenShut
import Derived.Deep.SlicePairs
import Derived.Lib.SmallJoins
import Derived.Deep.Slices
namespace Go.Proofs.YticccnkanihpnaaDoor
set_option linter.unusedVariables false
open Go.RowKit
attribute [local go_sem ↓] Go.wp_at_zero Go.wp_at_succ
def tailTo (xs:List Int):Nat->List UInt8
 | 0=>[]
 | k+1=>tailTo xs k++([32]++numL (Z xs k).toNat)
theorem formVal_at {k:Nat} (hk:k<=4):formVal (k:Int)=.agg #[.string (bs (wordJ k)),.int .i64 (numJ k:Int)]∧numJ k<=2∧(wordJ k).length<=5:=by
 have hk':k=0∨k=1∨k=2∨k=3∨k=4:=by omega
 rcases hk' with rfl | rfl | rfl | rfl | rfl <;> exact ⟨rfl,by decide,by decide⟩
theorem formOk_range {k a b:Int} (h:formOk k a b=true):0<=k∧k<=4:=by
 simp only [formOk,Bool.or_eq_true,Bool.and_eq_true,decide_eq_true_eq] at h
 omega
theorem deedL_form {k a b:Int} (h:formOk k a b=false):deedL ⟨k,a,b⟩=[]:=by
 simp only [formOk,Bool.or_eq_false_iff,Bool.and_eq_false_iff,decide_eq_false_iff_not] at h
 exact deedL_none (by omega) (by omega) (by omega) (by omega) (by omega)
theorem deedL_in {k:Nat} {a b:Int} (h:formOk k a b=true) (hn:∀ j,j < numJ k->0<=Z [a,b] j∧Z [a,b] j<=99):deedL ⟨k,a,b⟩=wordJ k++tailTo [a,b] (numJ k):=by
 have hr:=formOk_range h
 have hk':k=0∨k=1∨k=2∨k=3∨k=4:=by omega
 simp only [formOk,Bool.or_eq_true,Bool.and_eq_true,decide_eq_true_eq] at h
 rcases hk' with rfl | rfl | rfl | rfl | rfl
 ·have h0:=hn 0 (by decide)
  have h1:=hn 1 (by decide)
  have e:=deedL_come (a:=a) (b:=b) h0 h1
  refine Eq.trans e ?_
  simp [wordJ,numJ,tailTo,Z]
 ·obtain ⟨rfl,rfl⟩:a=0∧b=0:=by omega
  decide
 ·have h0:=hn 0 (by decide)
  obtain rfl:b=0:=by omega
  refine Eq.trans (deedL_need h0) ?_
  simp [wordJ,numJ,tailTo,Z]
 ·have h0:=hn 0 (by decide)
  obtain rfl:b=0:=by omega
  refine Eq.trans (deedL_later h0) ?_
  simp [wordJ,numJ,tailTo,Z]
 ·obtain ⟨rfl,rfl⟩:a=0∧b=0:=by omega
  decide
theorem deedL_out {k:Nat} {a b:Int} {j:Nat} (hj:j < numJ k) (hk:k<=4) (hn:¬ (0<=Z [a,b] j∧Z [a,b] j<=99)):deedL ⟨k,a,b⟩=[]:=by
 have hk':k=0∨k=1∨k=2∨k=3∨k=4:=by omega
 have h0:Z [a,b] 0=a:=rfl
 have h1:Z [a,b] 1=b:=rfl
 rcases hk' with rfl | rfl | rfl | rfl | rfl
 ·have hj':j=0∨j=1:=by simp only [numJ] at hj;omega
  rcases hj' with rfl | rfl
  ·rw [h0] at hn
   exact deedL_none (by omega) (by omega) (by omega) (by omega) (by omega)
  ·rw [h1] at hn
   exact deedL_none (by omega) (by omega) (by omega) (by omega) (by omega)
 ·simp [numJ] at hj
 ·obtain rfl:j=0:=by simp only [numJ] at hj;omega
  rw [h0] at hn
  exact deedL_none (by omega) (by omega) (by omega) (by omega) (by omega)
 ·obtain rfl:j=0:=by simp only [numJ] at hj;omega
  rw [h0] at hn
  exact deedL_none (by omega) (by omega) (by omega) (by omega) (by omega)
 ·simp [numJ] at hj
theorem tailTo_len {a b:Int} {k:Nat} (h:∀ j,j < k->0<=Z [a,b] j∧Z [a,b] j<=99):(tailTo [a,b] k).length<=3 * k:=by
 induction k with
 | zero=>simp [tailTo]
 | succ k ih =>
  have h1:=ih (fun j hj=>h j (by omega))
  have h2:=h k (by omega)
  have h3:=numL_len 1 (Z [a,b] k).toNat (by omega)
  simp only [tailTo,List.length_append,List.length_singleton]
  omega
set_option maxRecDepth 8000 in
set_option maxHeartbeats 4000000 in
theorem c_iDeedText (k a b:Int) (w:World) :
  Calls Tryd.prog 11 #[.agg #[.int .i64 k,.int .i64 a,.int .i64 b]] w fun e w'=>e=.returned (.string (bs (deedL ⟨k,a,b⟩)))∧Below w.heap.size w w':=by
 obtain ⟨w0,hw0⟩:∃ w0,w.alloc (.cells #[.int .i64 k,.int .i64 a,.int .i64 b] 24)=w0:=⟨_,rfl⟩
 have hz0:w.heap.size < w0.heap.size:=by rw [<- hw0];simp
 have hb0:Below w.heap.size w w0:=by rw [<- hw0];exact (Below.refl _ w).alloc (Nat.le_refl _) _
 have bD:w0.heap[w.heap.size]?=some (.cells #[.int .i64 k,.int .i64 a,.int .i64 b] 24 (0,0)):=by rw [<- hw0];exact heap_alloc_new _ _
 have HS:=Lib.hid (fun (W':World) (hb:Below w0.heap.size w0 W')=>show W'.cell? ⟨w.heap.size,0,none⟩=some (.int .i64 k)∧W'.cell? ⟨w.heap.size,1,none⟩=some (.int .i64 a)∧W'.cell? ⟨w.heap.size,2,none⟩=some (.int .i64 b) from by
  have b:=(hb.block w.heap.size hz0).trans bD
  exact ⟨cell_of_row _ w.heap.size 0 _ _ _ b,cell_of_row _ w.heap.size 1 _ _ _ b,cell_of_row _ w.heap.size 2 _ _ _ b⟩)
 have HF:=Lib.hid (fun W=>c_form k a b W)
 obtain ⟨c0,c1,c2⟩:=HS.out _ (Below.refl _ w0)
 clear bD
 cases ho:formOk k a b with
 | false =>
  have HO:=Lib.hid ho
  have HV:=Lib.hid (deedL_form ho)
  clear ho
  go_enter Tryd.func11,Tryd.ntmps11
  go_wp2_with fail
  refine (HF.out _).mono ?_
  rintro e w1 ⟨⟨f,rfl,-,W,n,rfl⟩,hb1⟩
  rw [HO.out]
  clear c0 c1 c2 hw0
  go_wp2_with fail
  go_ret
  exact ⟨by rw [HV.out];rfl,hb0.trans ((hb1.alloc hb1.size _).mono (by omega))⟩
 | true =>
  have hr:=formOk_range ho
  obtain ⟨j,rfl⟩:∃ j:Nat,k=(j:Int):=⟨k.toNat,by omega⟩
  have HO:=Lib.hid ho
  obtain ⟨hfv,hn2,hw5⟩:=formVal_at (k:=j) (by omega)
  have HFV:=Lib.hid hfv
  have HIn:=Lib.hid (fun hn=>deedL_in (k:=j) (a:=a) (b:=b) ho hn)
  have HOut:=Lib.hid (fun (i:Nat) (hi:i < numJ j) hn=>deedL_out (k:=j) (a:=a) (b:=b) hi (by omega) hn)
  have HR:=Lib.hid hr
  clear ho hfv hr
  generalize hW:wordJ j=W at *
  generalize hN:numJ j=n at *
  clear hW hN
  have p1:(0:Int)<=(n:Int):=by omega
  have p2:(n:Int)<=2:=by omega
  go_enter Tryd.func11,Tryd.ntmps11
  go_wp2_with fail
  refine (HF.out _).mono ?_
  rintro e w1 ⟨⟨f,rfl,hf,-⟩,hb1⟩
  rw [HO.out,hf HR.out,HFV.out]
  clear hf c0 c1 c2 hw0
  go_wp2_with fail
  obtain ⟨w2,hw2⟩:∃ w2,w1.alloc (.cells #[.string (bs W),.int .i64 (n:Int)] 54)=w2:=⟨_,rfl⟩
  have hb2:Below w1.heap.size w1 w2:=by rw [<- hw2];exact (Below.refl _ w1).alloc (Nat.le_refl _) _
  have bG:w2.heap[w1.heap.size]?=some (.cells #[.string (bs W),.int .i64 (n:Int)] 54 (0,0)):=by rw [<- hw2];exact heap_alloc_new _ _
  have hz2:w1.heap.size < w2.heap.size:=by rw [<- hw2];simp
  rw [hw2]
  have hx2:=hb1.trans (hb2.mono hb1.size)
  have HG:=Lib.hid (fun (W':World) (hb:Below w2.heap.size w2 W')=>show W'.cell? ⟨w.heap.size,0,none⟩=some (.int .i64 (j:Int))∧W'.cell? ⟨w.heap.size,1,none⟩=some (.int .i64 a)∧W'.cell? ⟨w.heap.size,2,none⟩=some (.int .i64 b)∧W'.cell? ⟨w1.heap.size,0,none⟩=some (.string (bs W))∧W'.cell? ⟨w1.heap.size,1,none⟩=some (.int .i64 (n:Int)) from by
   have b:=(hb.block w1.heap.size hz2).trans bG
   obtain ⟨s0,s1,s2⟩:=HS.out W' (hx2.trans (hb.mono hx2.size))
   exact ⟨s0,s1,s2,cell_of_row _ w1.heap.size 0 _ _ _ b,cell_of_row _ w1.heap.size 1 _ _ _ b⟩)
  obtain ⟨g0,g1,g2,g3,g4⟩:=HG.out _ (Below.refl _ w2)
  have hd2:Below w2.heap.size w2 w2.drew:=(Below.refl _ w2).drew
  have HX:=Lib.hid (hb0.trans (hx2.mono (show w.heap.size<=w0.heap.size by omega)))
  clear bG hb2 hb1 hw2 hx2
  go_region_held3 (fun W'=>W'.cell? ⟨w.heap.size,0,none⟩=some (.int .i64 (j:Int))∧W'.cell? ⟨w.heap.size,1,none⟩=some (.int .i64 a)∧W'.cell? ⟨w.heap.size,2,none⟩=some (.int .i64 b)∧W'.cell? ⟨w1.heap.size,0,none⟩=some (.string (bs W))∧W'.cell? ⟨w1.heap.size,1,none⟩=some (.int .i64 (n:Int)))
   (first
     | exact HG.out _ hx6
     | go_keep)
   (first
     | (go_at_call 34;refine (c_numbers _ _ _ _).mono ?_;rintro e w6 ⟨g,rfl,e0,e1,hg,hb6⟩;have hx6:Below w2.heap.size w2 w6:=hd2.trans hb6)
     | fail)
  have HC:=Lib.hid (fun (i:Nat) (hi:i < 2)=>show w6.cell? ⟨g,i,none⟩=some (.int .i64 (Z [a,b] i)) by
   have hi':i=0∨i=1:=by omega
   rcases hi' with rfl | rfl
   ·exact e0
   ·exact e1)
  have HY:=Lib.hid (HX.out.trans (hx6.mono HX.out.size))
  clear g0 g1 g2 g3 g4 e0 e1 hx6 hb6 hd2
  go_wp2_with fail
  go_loopw [5,23] (fun s i wr=>∃ q:Nat,q<=n∧i=.int .i64 (q:Int)∧s=.string (bs (W++tailTo [a,b] q))∧Hid (∀ i,i < q->0<=Z [a,b] i∧Z [a,b] i<=99)∧Below w6.heap.size w6 wr) (fun _ i _=>n - (intOf i).toNat)
  case atStart=>exact ⟨0,by omega,rfl,by simp [tailTo],Lib.hid (fun i hi=>by omega),Below.refl _ _⟩
  case round =>
   obtain ⟨q,hq,rfl,rfl,HN,hb⟩:=hrel
   have hsz:=hb.size
   have hyw:=HY.out.trans (hb.mono HY.out.size)
   by_cases hlt:q < n
   ·have d1:=(hb.cell (p:=⟨g,q,none⟩) hg).trans (HC.out q (by omega))
    have q1:(0:Int)<=(q:Int):=by omega
    have q2:(q:Int) < (n:Int):=by omega
    have hlen:=tailTo_len HN.out
    by_cases hz:0<=Z [a,b] q∧Z [a,b] q<=99
    ·have HD:=Lib.hid (decide_eq_true hz)
     have hn1:=numL_len 1 (Z [a,b] q).toNat (by omega)
     have HIt:=Lib.hid (fun W'=>show Calls Tryd.prog 36 #[.int .i64 (Z [a,b] q)] W' fun e w'=>e=.returned (.string (bs (numL (Z [a,b] q).toNat)))∧W'=w' from by
      have K:=c_itoaSmall (Z [a,b] q).toNat W' (by omega)
      rwa [show (((Z [a,b] q).toNat:Nat):Int)=Z [a,b] q by omega] at K)
     have y1:¬ (9223372036854775807 < 1+(bs (numL (Z [a,b] q).toNat)).size):=by rw [bs_size];omega
     have y2:¬ (9223372036854775807 < (bs (W++tailTo [a,b] q)).size+(1+(bs (numL (Z [a,b] q).toNat)).size)):=by rw [bs_size,bs_size,List.length_append];omega
     have HV:=Lib.hid (show bs (W++tailTo [a,b] q)++(⟨#[32]⟩++bs (numL (Z [a,b] q).toNat))=bs (W++tailTo [a,b] (q+1)) by
      rw [show (⟨#[32]⟩:ByteArray)=bs [32] from rfl,bs_append,bs_append];simp [tailTo])
     have HN2:=Lib.hid (show ∀ i,i < q+1->0<=Z [a,b] i∧Z [a,b] i<=99 from fun i hi=>by
      rcases Nat.lt_succ_iff_lt_or_eq.1 hi with h | rfl
      ·exact HN.out i h
      ·exact hz)
     clear hz hn1 hlen
     go_wp2_with fail
     refine (c_within _ _ _ _).mono ?_
     rintro e w' ⟨rfl,rfl⟩
     rw [HD.out]
     go_wp2_with fail
     refine (HIt.out _).mono ?_
     rintro e w' ⟨rfl,rfl⟩
     go_wp2_with fail
     go_roundw
     case rel=>exact ⟨q+1,by omega,by go_num,by rw [<- HV.out],HN2,hb⟩
     case measure=>simp [intOf];omega
    ·have HD:=Lib.hid (decide_eq_false hz)
     have HV:=Lib.hid (HOut.out q hlt hz)
     clear hz hlen
     go_wp2_with fail
     refine (c_within _ _ _ _).mono ?_
     rintro e w' ⟨rfl,rfl⟩
     rw [HD.out]
     go_wp2_with fail
     go_ret
     exact ⟨by rw [HV.out];rfl,hyw⟩
   ·have q2:¬ (q:Int) < (n:Int):=by omega
    obtain rfl:q=n:=by omega
    have HV:=Lib.hid (HIn.out HN.out)
    go_wp2_with fail
    go_ret
    exact ⟨by rw [HV.out];rfl,hyw⟩
end Go.Proofs.YticccnkanihpnaaDoor
namespace Go.Proofs.YticccnkanihpnaaDoor
set_option linter.unusedVariables false
open Go.RowKit
theorem Ss.take {w:World} {B:Nat} {A:Option Addr} {L:List (List UInt8)} (h:Ss w B A L) (m:Nat):Ss w B A (L.take m):=by
 intro hn
 rw [List.length_take] at hn
 obtain ⟨b,off,rfl,hlt,hc⟩:=h (by omega)
 refine ⟨b,off,rfl,hlt,fun k hk=>?_⟩
 rw [List.length_take] at hk
 have e:ZS (L.take m) k=ZS L k:=by simp [ZS,List.getD_eq_getElem?_getD,List.getElem?_take_of_lt (show k < m by omega)]
 rw [e]
 exact hc k (by omega)
section
variable {w:World}
end
end Go.Proofs.YticccnkanihpnaaDoor
namespace Go.Proofs.YticccnkanihpnaaDoor
set_option linter.unusedVariables false
open Go.RowKit
attribute [local go_sem ↓] Go.wp_at_zero Go.wp_at_succ
theorem forms_ix0 (w:World):(Instr.index 66 (.agg #[.string ⟨#[99,111,109,101]⟩,.int .i64 2,.string ⟨#[103,111]⟩,.int .i64 0,.string ⟨#[110,101,101,100]⟩,.int .i64 1,.string ⟨#[108,97,116,101,114]⟩,.int .i64 1,.string ⟨#[98,97,99,107]⟩,.int .i64 0]) (.int .i64 0)).run Tryd.prog w=.ok (.agg #[.string ⟨#[99,111,109,101]⟩,.int .i64 2]) w:=by kernel_rfl
theorem forms_ix1 (w:World):(Instr.index 66 (.agg #[.string ⟨#[99,111,109,101]⟩,.int .i64 2,.string ⟨#[103,111]⟩,.int .i64 0,.string ⟨#[110,101,101,100]⟩,.int .i64 1,.string ⟨#[108,97,116,101,114]⟩,.int .i64 1,.string ⟨#[98,97,99,107]⟩,.int .i64 0]) (.int .i64 1)).run Tryd.prog w=.ok (.agg #[.string ⟨#[103,111]⟩,.int .i64 0]) w:=by kernel_rfl
theorem forms_ix2 (w:World):(Instr.index 66 (.agg #[.string ⟨#[99,111,109,101]⟩,.int .i64 2,.string ⟨#[103,111]⟩,.int .i64 0,.string ⟨#[110,101,101,100]⟩,.int .i64 1,.string ⟨#[108,97,116,101,114]⟩,.int .i64 1,.string ⟨#[98,97,99,107]⟩,.int .i64 0]) (.int .i64 2)).run Tryd.prog w=.ok (.agg #[.string ⟨#[110,101,101,100]⟩,.int .i64 1]) w:=by kernel_rfl
theorem forms_ix3 (w:World):(Instr.index 66 (.agg #[.string ⟨#[99,111,109,101]⟩,.int .i64 2,.string ⟨#[103,111]⟩,.int .i64 0,.string ⟨#[110,101,101,100]⟩,.int .i64 1,.string ⟨#[108,97,116,101,114]⟩,.int .i64 1,.string ⟨#[98,97,99,107]⟩,.int .i64 0]) (.int .i64 3)).run Tryd.prog w=.ok (.agg #[.string ⟨#[108,97,116,101,114]⟩,.int .i64 1]) w:=by kernel_rfl
theorem forms_ix4 (w:World):(Instr.index 66 (.agg #[.string ⟨#[99,111,109,101]⟩,.int .i64 2,.string ⟨#[103,111]⟩,.int .i64 0,.string ⟨#[110,101,101,100]⟩,.int .i64 1,.string ⟨#[108,97,116,101,114]⟩,.int .i64 1,.string ⟨#[98,97,99,107]⟩,.int .i64 0]) (.int .i64 4)).run Tryd.prog w=.ok (.agg #[.string ⟨#[98,97,99,107]⟩,.int .i64 0]) w:=by kernel_rfl
attribute [local go_sem ↓] forms_ix0 forms_ix1 forms_ix2 forms_ix3 forms_ix4
end Go.Proofs.YticccnkanihpnaaDoor
namespace Go.Proofs.YticccnkanihpnaaDoor
set_option linter.unusedVariables false
open Go.RowKit
attribute [local go_sem ↓] Go.wp_at_zero Go.wp_at_succ
set_option maxHeartbeats 1000000 in
theorem c_toDeed (k a b:Int) (w:World) :
  Calls Tryd.prog 22 #[.agg #[.int .i64 k,.int .i64 a,.int .i64 b]] w fun e w'=>e=.returned (.agg #[.int .i64 k,.int .i64 a,.int .i64 b])∧Below w.heap.size w w':=by
 go_enter Tryd.func22,Tryd.ntmps22
 go_wp2
 exact bodyPost_ret (v:=.agg #[.int .i64 k,.int .i64 a,.int .i64 b]) (by simp [results,Tryd.results22,go_sem]) rfl ⟨rfl,by (repeat (first | exact rfl | exact Below.refl _ _ | (with_reducible refine Below.drew ?_) | (with_reducible refine Below.drewN ?_ _) | (with_reducible refine Below.alloc ?_ ?_ _) | (with_reducible refine Below.setCell ?_ ?_ _) | (show _<=_;focus (first | omega | (simp;done) | (simp;omega)))))⟩
set_option maxHeartbeats 1000000 in
theorem c_eqDeed (k a b:Int) (w:World) :
  Calls Tryd.prog 23 #[.agg #[.int .i64 k,.int .i64 a,.int .i64 b],.agg #[.int .i64 k,.int .i64 a,.int .i64 b]] w fun e w'=>e=.returned (.bool true)∧Below w.heap.size w w':=by
 go_enter Tryd.func23,Tryd.ntmps23
 go_wp2
 go_ret
 exact ⟨rfl,by (repeat (first | exact rfl | exact Below.refl _ _ | (with_reducible refine Below.drew ?_) | (with_reducible refine Below.drewN ?_ _) | (with_reducible refine Below.alloc ?_ ?_ _) | (with_reducible refine Below.setCell ?_ ?_ _) | (show _<=_;focus (first | omega | (simp;done) | (simp;omega)))))⟩
end Go.Proofs.YticccnkanihpnaaDoor
namespace Go.Proofs.YticccnkanihpnaaDoor
set_option linter.unusedVariables false
open Go.RowKit
attribute [local go_sem ↓] Go.wp_at_zero Go.wp_at_succ
set_option maxHeartbeats 1000000 in
theorem c_szE (A:Option Addr) (n c:Nat) (l:Int) (w:World) (h0:0<=l) (hl:l<=1048576) (hn:n<=9223372036854775807) :
  Calls Tryd.prog 24 #[.slice A n c,.int .i64 l] w fun e w'=>∃ r:Int,e=.returned (.int .i64 r)∧w=w'∧((r=-1∧l < n)∨(r=l - n∧(n:Int)<=l)):=by
 have q1:IntKind.i64.wrap (l - (n:Int))=l - (n:Int):=IntWalk.i64_in _ (by omega)
 by_cases h:(n:Int)<=l
 ·have d:decide (l - (n:Int) < 0)=false:=decide_eq_false (by omega)
  go_enter Tryd.func24,Tryd.ntmps24
  go_wp2_with fail
  go_ret
  exact ⟨l - (n:Int),rfl,rfl,Or.inr (And.intro rfl h)⟩
 ·have d:decide (l - (n:Int) < 0)=true:=decide_eq_true (by omega)
  go_enter Tryd.func24,Tryd.ntmps24
  go_wp2_with fail
  go_ret
  exact ⟨-1,rfl,rfl,Or.inl (by first | rfl | exact ⟨rfl,by omega⟩)⟩
theorem infoEx:(Tryd.prog.info? 24).map (fun i=>(i.zero,i.size,i.bytes))=some (some (.agg #[.int .i64 0,.int .i64 0,.int .i64 0]),3,24):=by kernel_rfl
theorem ZD_eta (L:List DV) (k:Nat) (h:k < L.length):(⟨(ZD L k).k,(ZD L k).a,(ZD L k).b⟩:DV)=L[k]:=by simp [ZD,h]
theorem EO.cells {w:World} {base g n c:Nat} {M:List DV} (h:EO w base (.slice (some ⟨g,0,none⟩) n c) M) :
  n=M.length∧(∀ k,k < n->w.cell? ⟨g,k * 3,none⟩=some (.int .i64 (ZD M k).k)∧w.cell? ⟨g,k * 3+1,none⟩=some (.int .i64 (ZD M k).a)∧w.cell? ⟨g,k * 3+2,none⟩=some (.int .i64 (ZD M k).b))∧∀ j,w.frozen? ⟨g,j,none⟩=false:=by
 have hn:n=M.length:=by
  rcases h.2 with ⟨h2,_⟩ | ⟨g',cap,cur,h2,_⟩
  ·cases h2
  ·injection h2
 subst hn
 refine ⟨rfl,fun k hk=>?_,fun j=>World.ownsRow.frozenAt h j⟩
 have:=flatD_at M k hk
 exact ⟨(World.ownsRow.cellAt h (k * 3) (by omega)).trans this.1,(World.ownsRow.cellAt h (k * 3+1) (by omega)).trans this.2.1,(World.ownsRow.cellAt h (k * 3+2) (by omega)).trans this.2.2⟩
theorem flatD_set (d:DV):∀ (L:List DV) (k:Nat),flatD (L.set k d)=(((flatD L).set (k * 3) (.int .i64 d.k)).set (k * 3+1) (.int .i64 d.a)).set (k * 3+2) (.int .i64 d.b)
 | [],k=>by simp [flatD]
 | c::L,0=>by simp [flatD]
 | c::L,k+1=>by
  have ih:=flatD_set d L k
  have e1:(k+1) * 3=k * 3+1+1+1:=by omega
  have e2:k * 3+1+1+1+2=k * 3+2+1+1+1:=by omega
  simp only [List.set_cons_succ,e1,e2]
  simp only [flatD,List.flatMap_cons,List.cons_append,List.nil_append,List.set_cons_succ] at ih ⊢
  rw [ih]
theorem EO.store {w:World} {base g n c:Nat} {M:List DV} (h:EO w base (.slice (some ⟨g,0,none⟩) n c) M) (k:Nat) (d:DV) :
  EO (((w.setCell ⟨g,k * 3,none⟩ (.int .i64 d.k)).setCell ⟨g,k * 3+1,none⟩ (.int .i64 d.a)).setCell ⟨g,k * 3+2,none⟩ (.int .i64 d.b)) base (.slice (some ⟨g,0,none⟩) n c) (M.set k d):=by
 have hn:=h.cells.1
 subst hn
 have h1:=(World.ownsRow.stored (g:=g) (cap:=c) h (k * 3) (.int .i64 d.k)).1
 have h2:=(World.ownsRow.stored (g:=g) (cap:=c) h1 (k * 3+1) (.int .i64 d.a)).1
 have h3:=(World.ownsRow.stored (g:=g) (cap:=c) h2 (k * 3+2) (.int .i64 d.b)).1
 unfold EO
 rw [flatD_set,List.length_set]
 exact h3
theorem flatD_zeros (n:Nat):(madeCells (Value.agg #[.int .i64 0,.int .i64 0,.int .i64 0]).cells (n * 3)).toList=flatD (List.replicate n ⟨0,0,0⟩):=by
 have hz:(Value.agg #[.int .i64 0,.int .i64 0,.int .i64 0]).cells=#[.int .i64 0,.int .i64 0,.int .i64 0]:=rfl
 have hl:(flatD (List.replicate n ⟨0,0,0⟩)).length=n * 3:=by rw [flatD_len];simp
 apply List.ext_getElem?
 intro j
 by_cases h:j < n * 3
 ·rw [hz,madeAt _ _ _ h]
  have h2:=flatD_at (List.replicate n ⟨0,0,0⟩) (j / 3) (by simp;omega)
  have e1:ZD (List.replicate n ⟨0,0,0⟩) (j / 3)=⟨0,0,0⟩:=by simp [ZD,show j / 3 < n by omega]
  rw [e1] at h2
  rcases (show j % 3=0∨j % 3=1∨j % 3=2 by omega) with h3 | h3 | h3
  ·have e3:j / 3 * 3=j:=by omega
   rw [e3] at h2
   rw [h2.1];simp [h3]
  ·have e3:j / 3 * 3+1=j:=by omega
   rw [e3] at h2
   rw [h2.2.1];simp [h3]
  ·have e3:j / 3 * 3+2=j:=by omega
   rw [e3] at h2
   rw [h2.2.2];simp [h3]
 ·rw [List.getElem?_eq_none (by simp [madeCells];omega),List.getElem?_eq_none (by omega)]
def fillE (L:List DV) (k:Nat):List DV:=L.take k++List.replicate (L.length - k) ⟨0,0,0⟩
theorem fillE_len {L:List DV} {k:Nat} (h:k<=L.length):(fillE L k).length=L.length:=by simp [fillE];omega
theorem fillE_all (L:List DV):fillE L L.length=L:=by simp [fillE]
theorem fillE_succ {L:List DV} {k:Nat} (h:k < L.length):(fillE L k).set k ⟨(ZD L k).k,(ZD L k).a,(ZD L k).b⟩=fillE L (k+1):=by
 apply List.ext_getElem (by simp [fillE];omega)
 intro i h1 h2
 simp only [fillE,List.length_set,List.length_append,List.length_take,List.length_replicate] at h1 h2
 rw [List.getElem_set]
 by_cases e:k=i
 ·subst e
  simp only [if_true,fillE]
  rw [List.getElem_append_left (by simp;omega),List.getElem_take,ZD_eta L k h]
 ·rw [if_neg e]
  simp only [fillE]
  by_cases hi:i < k
  ·rw [List.getElem_append_left (by simp;omega),List.getElem_append_left (by simp;omega),List.getElem_take,List.getElem_take]
  ·rw [List.getElem_append_right (by simp;omega),List.getElem_append_right (by simp;omega),List.getElem_replicate,List.getElem_replicate]
set_option maxRecDepth 8000 in
set_option maxHeartbeats 2000000 in
theorem c_toDeedS (L:List DV) (A:Option Addr) (c:Nat) (w:World) (hA:Ds3 w w.heap.size A L) (hn:L.length<=1048576) :
  Calls Tryd.prog 25 #[.slice A L.length c] w fun e w'=>∃ v,e=.returned v∧EO w' w.heap.size v L∧Below w.heap.size w w':=by
 obtain ⟨i0,hi,hz0,hz1,hz2⟩:=info_parts infoEx
 go_enter Tryd.func25,Tryd.ntmps25
 go_wp2_with (at_make;refine wpList_make_full w rfl _ _ _ rfl w.heap.size 24 i0 _ 3 Tryd.underlying32 hi hz0 hz1 .i64 .i64 _ _ L.length rfl rfl rfl rfl (by rw [hz2];omega) (by simp only [maxLen];omega) (Nat.le_refl _) ?_;intro w1 hown1 hgr1)
 have hb1:Below w.heap.size w w1:=(Below.refl _ _).grown hgr1 (Nat.le_refl _) (by simp)
 have o1:EO w1 w.heap.size (.slice (some ⟨w.heap.size,0,none⟩) L.length L.length) (fillE L 0):=by
  unfold EO
  rw [fillE_len (by omega),show fillE L 0=List.replicate L.length ⟨0,0,0⟩ by simp [fillE],<- flatD_zeros]
  exact hown1
 clear hown1 hgr1
 go_loopw [4] (fun i wr=>∃ k:Nat,k<=L.length∧i=.int .i64 k∧EO wr w.heap.size (.slice (some ⟨w.heap.size,0,none⟩) L.length L.length) (fillE L k)∧Below w.heap.size w wr)
  (fun i _=>L.length - (intOf i).toNat)
 case atStart=>exact ⟨0,by omega,rfl,o1,hb1⟩
 case round =>
  obtain ⟨k,hk,rfl,hown,hb⟩:=hrel
  by_cases hlt:k < L.length
  ·obtain ⟨b,off,rfl,hlb,hc⟩:=hA (by omega)
   have c1:=(hb.cell (p:=⟨b,off+k * 3,none⟩) hlb).trans (hc k hlt).1
   have c2:=(hb.cell (p:=⟨b,off+k * 3+1,none⟩) hlb).trans (hc k hlt).2.1
   have c3:=(hb.cell (p:=⟨b,off+k * 3+2,none⟩) hlb).trans (hc k hlt).2.2
   clear hc
   have hsz:=hb.size
   clear hb1 hA o1
   go_wp2_with fail
   refine (c_toDeed _ _ _ _).mono ?_
   rintro e w5 ⟨rfl,hb5⟩
   have o5:=hown.below hb5 (Nat.le_refl _)
   have hb7:=hb.trans (hb5.mono hsz)
   obtain ⟨-,hcl,hfr⟩:=o5.cells
   obtain ⟨d1,d2,d3⟩:=hcl k hlt
   have f1:=hfr (k * 3)
   have f2:=hfr (k * 3+1)
   have f3:=hfr (k * 3+2)
   have HO:=Lib.hid (o5.store k ⟨(ZD L k).k,(ZD L k).a,(ZD L k).b⟩)
   rw [fillE_succ hlt] at HO
   clear hcl hfr
   go_wp2_with fail
   go_roundw
   case rel=>exact ⟨k+1,by omega,by go_num,HO.out,by (repeat (first | exact hb7 | exact Below.refl _ _ | (with_reducible refine Below.drew ?_) | (with_reducible refine Below.drewN ?_ _) | (with_reducible refine Below.alloc ?_ ?_ _) | (with_reducible refine Below.setCell ?_ ?_ _) | (show _<=_;focus (first | omega | (simp;done) | (simp;omega)))))⟩
   case measure=>simp [intOf];omega
  ·go_wp2_with fail
   go_ret
   obtain rfl:k=L.length:=by omega
   rw [fillE_all] at hown
   exact ⟨_,rfl,hown,hb⟩
set_option maxHeartbeats 2000000 in
theorem c_eqDeedS (L:List DV) (A B:Option Addr) (c d:Nat) (w:World) (hA:Ds3 w w.heap.size A L) (hB:Ds3 w w.heap.size B L) (hn:L.length<=1048576) :
  Calls Tryd.prog 26 #[.slice A L.length c,.slice B L.length d] w fun e w'=>e=.returned (.bool true)∧Below w.heap.size w w':=by
 go_enter Tryd.func26,Tryd.ntmps26
 go_wp2_with fail
 go_loopw [5] (fun i wr=>∃ k:Nat,k<=L.length∧i=.int .i64 k∧Below w.heap.size w wr) (fun i _=>L.length - (intOf i).toNat)
 case atStart=>exact ⟨0,Nat.zero_le _,rfl,Below.refl _ _⟩
 case round =>
  obtain ⟨k,hk,rfl,hb⟩:=hrel
  have hsz:=hb.size
  by_cases hlt:k < L.length
  ·obtain ⟨b,off,rfl,hlb,hc⟩:=hA (by omega)
   obtain ⟨b2,off2,rfl,hlb2,hc2⟩:=hB (by omega)
   obtain ⟨p1,p2,p3⟩:=hc k hlt
   obtain ⟨q1,q2,q3⟩:=hc2 k hlt
   have c1:=WB.cell (B:=w.heap.size) (w:=wr) hlb ((hb.cell (p:=⟨b,off+k * 3,none⟩) hlb).trans p1)
   have c2:=WB.cell (B:=w.heap.size) (w:=wr) hlb ((hb.cell (p:=⟨b,off+k * 3+1,none⟩) hlb).trans p2)
   have c3:=WB.cell (B:=w.heap.size) (w:=wr) hlb ((hb.cell (p:=⟨b,off+k * 3+2,none⟩) hlb).trans p3)
   have c4:=WB.cell (B:=w.heap.size) (w:=wr) hlb2 ((hb.cell (p:=⟨b2,off2+k * 3,none⟩) hlb2).trans q1)
   have c5:=WB.cell (B:=w.heap.size) (w:=wr) hlb2 ((hb.cell (p:=⟨b2,off2+k * 3+1,none⟩) hlb2).trans q2)
   have c6:=WB.cell (B:=w.heap.size) (w:=wr) hlb2 ((hb.cell (p:=⟨b2,off2+k * 3+2,none⟩) hlb2).trans q3)
   have z1:(0:Int)<=(k:Int):=by omega
   have z2:(k:Int) < (L.length:Int):=by omega
   have HE:=Lib.hid (fun W=>c_eqDeed (ZD L k).k (ZD L k).a (ZD L k).b W)
   clear hc hc2 p1 p2 p3 q1 q2 q3
   go_wp2_with fail
   refine wp_region_wb w.heap.size (by kernel_rfl) (by kernel_rfl) ?_
   repeat (go_big_quiet_step ((go_at_call 23;exact Calls.inB hsz (HE.out _))))
   refine wpQuiet_nil ?_
   rintro w5 ⟨⟨_,hb5⟩,rfl⟩
   go_wp2_with fail
   go_roundw
   case rel=>exact ⟨k+1,by omega,by go_num,hb.trans hb5⟩
   case measure=>simp [intOf];omega
  ·go_wp2_with fail
   go_ret
   exact ⟨rfl,hb⟩
end Go.Proofs.YticccnkanihpnaaDoor
namespace Go.Proofs.YticccnkanihpnaaDoor
set_option linter.unusedVariables false
open Go.RowKit
attribute [local go_sem ↓] Go.wp_at_zero Go.wp_at_succ
theorem deedL_le (d:DV):(deedL d).length<=20:=by
 have h2:∀ n:Int,0<=n->n<=99->(numL n.toNat).length<=2:=fun n h0 h1=>numL_len 1 n.toNat (by omega)
 rcases deed_ways d with h | ⟨-,ha,hb,h⟩ | ⟨-,ha,-,h⟩ | ⟨-,ha,-,h⟩ | ⟨-,h⟩ | ⟨-,h⟩
 ·rw [h];simp
 ·have:=h2 d.a ha.1 ha.2
  have:=h2 d.b hb.1 hb.2
  rw [h];simp [wCome];omega
 ·have:=h2 d.a ha.1 ha.2
  rw [h];simp [wNeed];omega
 ·have:=h2 d.a ha.1 ha.2
  rw [h];simp [wLater];omega
 ·rw [h];simp [wGo]
 ·rw [h];simp [wBack]
theorem ZD_at {L:List DV} {k:Nat} (h:k < L.length):ZD L k=L[k]:=by simp [ZD,h]
theorem jTake (L:List DV) {k:Nat} (h:k < L.length):L.take (k+1)=L.take k++[ZD L k]:=by rw [List.take_succ_eq_append_getElem h,ZD_at h]
theorem jTo_len (L:List DV):(jTo L).length<=21 * L.length:=by
 induction L with
 | nil=>simp [jTo]
 | cons d L ih =>
  have:=deedL_le d
  have e:jTo (d::L)=deedL d++[10]++jTo L:=by simp [jTo]
  rw [e];simp;omega
theorem jOk_bad {L:List DV} {k:Nat} (h:k < L.length) (hd:deedL (ZD L k)=[]):journalL L=[]:=by
 rw [journalL,if_neg]
 intro hj
 rw [jOk,List.all_eq_true] at hj
 have:=hj (ZD L k) (by rw [ZD_at h];exact List.getElem_mem _)
 rw [hd] at this
 simp at this
set_option maxRecDepth 8000 in
set_option maxHeartbeats 4000000 in
theorem c_sJournalText (L:List DV) (A:Option Addr) (c:Nat) (w:World) (hE:Ds3 w w.heap.size A L) (hn:L.length<=100000000) :
  Calls Tryd.prog 19 #[.slice A L.length c] w fun e w'=>e=.returned (.string (bs (journalL L)))∧Below w.heap.size w w':=by
 have HB:=Lib.hid (fun k (hk:k < L.length) (hd:deedL (ZD L k)=[])=>jOk_bad hk hd)
 have HLn:=Lib.hid (fun k=>jTo_len (L.take k))
 go_enter Tryd.func19,Tryd.ntmps19
 go_wp2_with fail
 go_loopw [3,4] (fun s i wr=>∃ k:Nat,k<=L.length∧i=.int .i64 (k:Int)∧s=.string (bs (jTo (L.take k)))∧Hid (jOk (L.take k)=true)∧Below w.heap.size w wr) (fun _ i _=>L.length - (intOf i).toNat)
 case atStart=>exact ⟨0,by omega,rfl,rfl,rfl,Below.refl _ _⟩
 case round =>
  obtain ⟨k,hk,rfl,rfl,hok,hb⟩:=hrel
  have hsz:=hb.size
  by_cases hlt:k < L.length
  ·obtain ⟨b,off,rfl,hlb,hc⟩:=hE (by omega)
   obtain ⟨c0,c1,c2⟩:=hc k hlt
   have d0:=(hb.cell (p:=⟨b,off+k * 3,none⟩) hlb).trans c0
   have d1:=(hb.cell (p:=⟨b,off+k * 3+1,none⟩) hlb).trans c1
   have d2:=(hb.cell (p:=⟨b,off+k * 3+2,none⟩) hlb).trans c2
   clear c0 c1 c2
   have p1:(0:Int)<=(k:Int):=by omega
   have p2:(k:Int) < (L.length:Int):=by omega
   have HT:=Lib.hid (jTake L hlt)
   have hl:=HLn.out k
   rw [List.length_take] at hl
   have hl2:=deedL_le (ZD L k)
   have HBk:=Lib.hid (HB.out k hlt)
   obtain ⟨⟨dk,da,db⟩,hd⟩:∃ d,ZD L k=d:=⟨_,rfl⟩
   rw [hd] at d0 d1 d2 hl2 HBk HT
   have HC:=Lib.hid (fun W=>c_sDeedText dk da db W)
   clear hc hd
   by_cases he:deedL ⟨dk,da,db⟩=[]
   ·have hq:(bs (deedL ⟨dk,da,db⟩)).toList=[]:=by rw [bs_list,he]
    have hq2:(bs (deedL ⟨dk,da,db⟩)).toList.isEmpty=true:=by rw [hq];rfl
    have HV:=Lib.hid (HBk.out he)
    clear he hl hl2
    go_wp2_with fail
    refine (HC.out _).mono ?_
    rintro e w5 ⟨rfl,hb5⟩
    go_wp2_with fail
    go_ret
    exact ⟨by rw [HV.out];rfl,hb.trans (hb5.mono hsz)⟩
   ·have hq:¬ (bs (deedL ⟨dk,da,db⟩)).toList=[]:=by rw [bs_list];exact he
    have hq2:(bs (deedL ⟨dk,da,db⟩)).toList.isEmpty=false:=by simpa using hq
    have HJ:=Lib.hid (show jOk (L.take (k+1))=true by rw [HT.out,jOk_snoc,hok.out];simpa using he)
    have HS:=Lib.hid (show bs (jTo (L.take k))++bs (deedL ⟨dk,da,db⟩)++⟨#[10]⟩=bs (jTo (L.take (k+1))) by rw [HT.out,jTo_snoc,<- bs_append,<- bs_append];rfl)
    have y1:¬ (9223372036854775807 < (bs (jTo (L.take k))).size+(bs (deedL ⟨dk,da,db⟩)).size):=by rw [bs_size,bs_size];omega
    have y2:¬ (9223372036854775807 < (bs (jTo (L.take k))).size+(bs (deedL ⟨dk,da,db⟩)).size+1):=by rw [bs_size,bs_size];omega
    clear he hl hl2 HBk HT
    generalize jTo (L.take k)=t at *
    go_wp2_with fail
    refine (HC.out _).mono ?_
    rintro e w5 ⟨rfl,hb5⟩
    have hx5:=hb.trans (hb5.mono hsz)
    have e0:=(hb5.cell (p:=⟨b,off+k * 3,none⟩) (show b < wr.heap.size by omega)).trans d0
    have e1:=(hb5.cell (p:=⟨b,off+k * 3+1,none⟩) (show b < wr.heap.size by omega)).trans d1
    have e2:=(hb5.cell (p:=⟨b,off+k * 3+2,none⟩) (show b < wr.heap.size by omega)).trans d2
    clear d0 d1 d2
    go_wp2_with fail
    refine (HC.out _).mono ?_
    rintro e w6 ⟨rfl,hb6⟩
    go_wp2_with fail
    go_roundw
    case rel=>exact ⟨k+1,by omega,by go_num,by rw [<- HS.out],HJ,hx5.trans (hb6.mono hx5.size)⟩
    case measure=>simp [intOf];omega
  ·have p2:¬ (k:Int) < (L.length:Int):=by omega
   obtain rfl:k=L.length:=by omega
   rw [List.take_length] at hok ⊢
   have HV:=Lib.hid (show journalL L=jTo L from if_pos hok.out)
   go_wp2_with fail
   go_ret
   exact ⟨by rw [HV.out];rfl,hb⟩
end Go.Proofs.YticccnkanihpnaaDoor
namespace Go.Proofs.YticccnkanihpnaaDoor
set_option linter.unusedVariables false
open Go.RowKit
def builderRen:Go.Shelf.Ren:=⟨fun | 166=>50 | 167=>51 | 240=>61 | 276=>69 | n=>n,
 fun | 0=>0 | 3=>3 | 4=>4 | 5=>5 | 9=>9 | 20=>20 | 37=>22 | 70=>77 | 72=>79 | 75=>81 | 80=>85 | 164=>101 | n=>n,fun | n=>n⟩
theorem builder_X:Builder.Extra Tryd.prog builderRen:={
 sizeBuilder:=by kernel_rfl
 liesBuilder:=by kernel_rfl
 t5:=Tryd.underlying5
 a5:=Tryd.isAgg5
 z5:=Tryd.sizeOf5
 v5:=Tryd.zeroValue5
 infoByte:=by kernel_rfl
 cellsByte:=by kernel_rfl
 sizeByte:=by kernel_rfl
 neB5:=by decide }
theorem builder_lays166:Go.Proofs.Lays.n166 Tryd.prog builderRen:={
 mixed:=by kernel_rfl
 f166:=Tryd.func50.trans (congrArg some (by kernel_rfl))
 f240:=Tryd.func61.trans (congrArg some (by kernel_rfl))
 f276:=Tryd.func69.trans (congrArg some (by kernel_rfl))
 t0:=Tryd.underlying0
 a0:=Tryd.isAgg0
 z0:=Tryd.sizeOf0
 v0:=Tryd.zeroValue0
 t3:=Tryd.underlying3
 a3:=Tryd.isAgg3
 z3:=Tryd.sizeOf3
 v3:=Tryd.zeroValue3
 t4:=Tryd.underlying4
 a4:=Tryd.isAgg4
 z4:=Tryd.sizeOf4
 v4:=Tryd.zeroValue4
 t9:=Tryd.underlying9
 a9:=Tryd.isAgg9
 z9:=Tryd.sizeOf9
 v9:=Tryd.zeroValue9
 t20:=Tryd.underlying20
 a20:=Tryd.isAgg20
 z20:=Tryd.sizeOf20
 v20:=Tryd.zeroValue20
 t37:=Tryd.underlying22
 a37:=Tryd.isAgg22
 z37:=Tryd.sizeOf22
 v37:=Tryd.zeroValue22
 t70:=Tryd.underlying77
 a70:=Tryd.isAgg77
 z70:=Tryd.sizeOf77
 v70:=Tryd.zeroValue77
 t72:=Tryd.underlying79
 a72:=Tryd.isAgg79
 z72:=Tryd.sizeOf79
 v72:=Tryd.zeroValue79
 t75:=Tryd.underlying81
 a75:=Tryd.isAgg81
 z75:=Tryd.sizeOf81
 v75:=Tryd.zeroValue81
 t164:=Tryd.underlying101
 a164:=Tryd.isAgg101
 z164:=Tryd.sizeOf101
 v164:=Tryd.zeroValue101 }
theorem builder_lays167:Go.Proofs.Lays.n167 Tryd.prog builderRen:={
 mixed:=by kernel_rfl
 f167:=Tryd.func51.trans (congrArg some (by kernel_rfl))
 f240:=Tryd.func61.trans (congrArg some (by kernel_rfl))
 f276:=Tryd.func69.trans (congrArg some (by kernel_rfl))
 t0:=Tryd.underlying0
 a0:=Tryd.isAgg0
 z0:=Tryd.sizeOf0
 v0:=Tryd.zeroValue0
 t4:=Tryd.underlying4
 a4:=Tryd.isAgg4
 z4:=Tryd.sizeOf4
 v4:=Tryd.zeroValue4
 t5:=Tryd.underlying5
 a5:=Tryd.isAgg5
 z5:=Tryd.sizeOf5
 v5:=Tryd.zeroValue5
 t9:=Tryd.underlying9
 a9:=Tryd.isAgg9
 z9:=Tryd.sizeOf9
 v9:=Tryd.zeroValue9
 t20:=Tryd.underlying20
 a20:=Tryd.isAgg20
 z20:=Tryd.sizeOf20
 v20:=Tryd.zeroValue20
 t37:=Tryd.underlying22
 a37:=Tryd.isAgg22
 z37:=Tryd.sizeOf22
 v37:=Tryd.zeroValue22
 t70:=Tryd.underlying77
 a70:=Tryd.isAgg77
 z70:=Tryd.sizeOf77
 v70:=Tryd.zeroValue77
 t72:=Tryd.underlying79
 a72:=Tryd.isAgg79
 z72:=Tryd.sizeOf79
 v72:=Tryd.zeroValue79
 t75:=Tryd.underlying81
 a75:=Tryd.isAgg81
 z75:=Tryd.sizeOf81
 v75:=Tryd.zeroValue81
 t164:=Tryd.underlying101
 a164:=Tryd.isAgg101
 z164:=Tryd.sizeOf101
 v164:=Tryd.zeroValue101 }
theorem c_writeString (B b:Nat) (bs:List Value) (s:ByteArray) (w:World) (h:Lib.IsBuilder 79 5 B b bs w) (hlen:bs.length+s.size<=140737488355328) (hBw:B<=w.heap.size) :
  Calls Tryd.prog 50 #[.pointer (some ⟨b,0,none⟩),.string s] w fun e w'=>e=.returned (.tuple #[.int .i64 s.size,.nilIface])∧(Lib.BuilderAt 79 5 B b (.pointer (some ⟨b,0,none⟩)) (bs++Lib.strCells s) w'∧Below B w w'):=Any.Builder_WriteString builder_lays166 builder_X B b bs s w h hlen hBw
theorem c_writeByte (B b:Nat) (bs:List Value) (c:Int) (w:World) (h:Lib.IsBuilder 79 5 B b bs w) (hlen:bs.length+1<=140737488355328) (hBw:B<=w.heap.size) :
  Calls Tryd.prog 51 #[.pointer (some ⟨b,0,none⟩),.int .u8 c] w fun e w'=>e=.returned .nilIface∧(Lib.BuilderAt 79 5 B b (.pointer (some ⟨b,0,none⟩)) (bs++[.int .u8 c]) w'∧Below B w w'):=Any.Builder_WriteByte builder_lays167 builder_X B b bs c w h hlen hBw
end Go.Proofs.YticccnkanihpnaaDoor
namespace Go.Proofs.YticccnkanihpnaaDoor
set_option linter.unusedVariables false
open Go.RowKit
attribute [local go_sem ↓] Go.wp_at_zero Go.wp_at_succ
abbrev BuilderIs (w:World) (B b:Nat) (t:List UInt8):Prop:=Lib.IsBuilder 79 5 B b (Lib.byteCells t) w
theorem builder_at {T e:TypeId} {B b:Nat} {p:Value} {xs:List Value} {w w':World} (h:Lib.BuilderAt T e B b p xs w) {H:Nat} (hb:Below H w w') (hH:w.heap.size<=H):Lib.BuilderAt T e B b p xs w':=by
 have hlt:=h.lt
 obtain ⟨h1,v,h2,h3,h4⟩:=h
 exact ⟨h1,v,(hb.block b (by omega)).trans h2,owns_below h3 hb hH,h4⟩
theorem builder_below {T e:TypeId} {B b:Nat} {xs:List Value} {w w':World} (h:Lib.IsBuilder T e B b xs w) {H:Nat} (hb:Below H w w') (hH:w.heap.size<=H):Lib.IsBuilder T e B b xs w':=by
 rcases h with h | h
 ·exact .inl (builder_at h hb hH)
 ·exact .inr (builder_at h hb hH)
theorem bytes_app (x y:List UInt8):Lib.byteCells x++Lib.byteCells y=Lib.byteCells (x++y):=by simp [Lib.byteCells]
theorem bytes_len (x:List UInt8):(Lib.byteCells x).length=x.length:=by simp [Lib.byteCells]
set_option maxRecDepth 8000 in
set_option maxHeartbeats 4000000 in
theorem c_iJournalText (L:List DV) (A:Option Addr) (c:Nat) (w:World) (hE:Ds3 w w.heap.size A L) (hcap:L.length<=c) (hn:L.length<=100000000) :
  Calls Tryd.prog 18 #[.slice A L.length c] w fun e w'=>e=.returned (.string (bs (journalL L)))∧Below w.heap.size w w':=by
 obtain ⟨w0,hw0⟩:∃ w0,w.alloc (.cells #[.pointer none,.slice none 0 0] 79)=w0:=⟨_,rfl⟩
 have hb0:Below w.heap.size w w0:=by rw [<- hw0];exact (Below.refl _ w).alloc (Nat.le_refl _) _
 have bl0:BuilderIs w0 w.heap.size w.heap.size []:=by
  rw [<- hw0]
  exact .inl ⟨Nat.le_refl _,_,heap_alloc_new _ _,⟨rfl,.inl ⟨rfl,rfl⟩⟩,by simp [Value.ownBlock]⟩
 have HE:=Lib.hid hE
 have HLn:=Lib.hid (fun k=>jTo_len (L.take k))
 have HB:=Lib.hid (fun k (hk:k < L.length)=>jOk_bad hk)
 clear hE
 go_enter Tryd.func18,Tryd.ntmps18
 go_wp2_with fail
 clear hw0
 go_loopw [9] (fun i wr=>∃ k:Nat,k<=L.length∧i=.int .i64 (k:Int)∧Hid (jOk (L.take k)=true)∧BuilderIs wr w.heap.size w.heap.size (jTo (L.take k))∧Below w.heap.size w wr) (fun i _=>L.length - (intOf i).toNat)
 case atStart=>exact ⟨0,by omega,rfl,rfl,bl0,hb0⟩
 case round =>
  clear bl0 hb0
  obtain ⟨k,hk,rfl,hok,bl,hb⟩:=hrel
  have hsz:=hb.size
  by_cases hlt:k < L.length
  ·obtain ⟨b,off,rfl,hlb,hc⟩:=HE.out (by omega)
   obtain ⟨y0,y1,y2⟩:=hc k hlt
   have d0:=(hb.cell (p:=⟨b,off+k * 3,none⟩) hlb).trans y0
   have d1:=(hb.cell (p:=⟨b,off+k * 3+1,none⟩) hlb).trans y1
   have d2:=(hb.cell (p:=⟨b,off+k * 3+2,none⟩) hlb).trans y2
   clear hc y0 y1 y2
   have p1:(0:Int)<=(k:Int):=by omega
   have p2:(k:Int) < (L.length:Int):=by omega
   have HT:=Lib.hid (jTake L hlt)
   have hl:=HLn.out k
   rw [List.length_take] at hl
   have hl2:=deedL_le (ZD L k)
   have HBk:=Lib.hid (HB.out k hlt)
   obtain ⟨⟨dk,da,db⟩,hd⟩:∃ d,ZD L k=d:=⟨_,rfl⟩
   rw [hd] at d0 d1 d2 hl2 HBk HT
   have HC:=Lib.hid (fun W=>c_iDeedText dk da db W)
   have hbA:Below wr.heap.size wr (wr.alloc (.cells #[.int .i64 dk,.int .i64 da,.int .i64 db] 24)):=(Below.refl _ wr).alloc (Nat.le_refl _) _
   clear hd
   by_cases he:deedL ⟨dk,da,db⟩=[]
   ·have hq:((bs (deedL ⟨dk,da,db⟩)).toList == [])=true:=by rw [bs_list,he];rfl
    have hq1:(bs (deedL ⟨dk,da,db⟩)).toList=[]:=by rw [bs_list,he]
    have hq2:(bs (deedL ⟨dk,da,db⟩)).toList.isEmpty=true:=by rw [hq1];rfl
    have HV:=Lib.hid (HBk.out he)
    clear he hl hl2
    go_wp2_with fail
    refine (HC.out _).mono ?_
    rintro e w5 ⟨rfl,hb5⟩
    go_wp2_with fail
    go_ret
    exact ⟨by rw [HV.out];rfl,hb.trans ((hbA.trans (hb5.mono hbA.size)).mono hsz)⟩
   ·have hq1:¬ (bs (deedL ⟨dk,da,db⟩)).toList=[]:=by rw [bs_list];exact he
    have hq2:(bs (deedL ⟨dk,da,db⟩)).toList.isEmpty=false:=by simpa using hq1
    have HJ:=Lib.hid (show jOk (L.take (k+1))=true by rw [HT.out,jOk_snoc,hok.out];simpa using he)
    have HS:=Lib.hid (show Lib.byteCells (jTo (L.take k))++Lib.byteCells (deedL ⟨dk,da,db⟩)++[.int .u8 10]=Lib.byteCells (jTo (L.take (k+1))) by
     rw [HT.out,jTo_snoc,bytes_app,show ([.int .u8 10]:List Value)=Lib.byteCells [10] from rfl,bytes_app])
    have HWs:=Lib.hid (fun (W:World) (hW:BuilderIs W w.heap.size w.heap.size (jTo (L.take k))) (hz:w.heap.size<=W.heap.size)=>c_writeString w.heap.size w.heap.size (Lib.byteCells (jTo (L.take k))) (bs (deedL ⟨dk,da,db⟩)) W hW (by rw [bytes_len,bs_size];omega) hz)
    have HWb:=Lib.hid (fun (W:World) (hW:Lib.IsBuilder 79 5 w.heap.size w.heap.size (Lib.byteCells (jTo (L.take k))++Lib.byteCells (deedL ⟨dk,da,db⟩)) W) (hz:w.heap.size<=W.heap.size)=>c_writeByte w.heap.size w.heap.size (Lib.byteCells (jTo (L.take k))++Lib.byteCells (deedL ⟨dk,da,db⟩)) 10 W hW (by rw [bytes_app,bytes_len,List.length_append];omega) hz)
    clear he hl hl2 HBk HT
    go_wp2_with fail
    refine (HC.out _).mono ?_
    rintro e w5 ⟨rfl,hb5⟩
    have hx5:=hbA.trans (hb5.mono hbA.size)
    have bl5:=builder_below bl hx5 (Nat.le_refl _)
    have hw5:=hb.trans (hx5.mono hsz)
    clear d0 d1 d2 bl hb5
    go_wp2_with fail
    refine (HWs.out _ bl5 hw5.size).mono ?_
    rintro e w6 ⟨rfl,bl6,hb6⟩
    have hw6:=hw5.trans hb6
    go_wp2_with fail
    refine (HWb.out _ (.inr bl6) hw6.size).mono ?_
    rintro e w7 ⟨rfl,bl7,hb7⟩
    rw [HS.out] at bl7
    go_wp2_with fail
    go_roundw
    case rel=>exact ⟨k+1,by omega,by go_num,HJ,.inr bl7,hw6.trans hb7⟩
    case measure=>simp [intOf];omega
  ·have p2:¬ (k:Int) < (L.length:Int):=by omega
   obtain rfl:k=L.length:=by omega
   rw [List.take_length] at hok bl
   have HV:=Lib.hid (show journalL L=jTo L from if_pos hok.out)
   have HC:=Lib.hid (Tryd.Builder_String_any w.heap.size w.heap.size (jTo L) wr bl hsz)
   clear bl
   go_wp2_with fail
   refine HC.out.mono ?_
   rintro e w5 ⟨rfl,hb5⟩
   go_wp2_with fail
   go_ret
   exact ⟨by rw [HV.out];rfl,hb.trans hb5⟩
end Go.Proofs.YticccnkanihpnaaDoor
namespace Go.Proofs.YticccnkanihpnaaDoor
set_option linter.unusedVariables false
open Go.RowKit
attribute [local go_sem ↓] Go.wp_at_zero Go.wp_at_succ
set_option maxRecDepth 8000 in
set_option maxHeartbeats 4000000 in
theorem w_FnExactJournalText (L:List DV) (A:Option Addr) (c:Nat) (w:World) (hA:Ds3 w w.heap.size A L) (hlc:L.length<=c) (hcm:c<=9223372036854775807) :
  Calls Tryd.prog 8 #[.slice A L.length c] w fun e w'=>e=.returned (.bool true)∧Below w.heap.size w w':=by
 have HZ:=Lib.hid (fun W=>c_szE A L.length c 1048576 W (by omega) (by omega) (by omega))
 have HA:=Lib.hid hA
 clear hA
 go_enter Tryd.func8,Tryd.ntmps8
 go_wp2_with fail
 refine (HZ.out _).mono ?_
 rintro e w' ⟨r,rfl,rfl,hr⟩
 by_cases hn:L.length<=1048576
 ·obtain ⟨rfl,-⟩:r=1048576 - (L.length:Int)∧True:=by rcases hr with ⟨h1,h2⟩ | ⟨h1,h2⟩ <;> exact ⟨by omega,trivial⟩
  have d1:decide ((1048576:Int) - (L.length:Int) < 0)=false:=decide_eq_false (by omega)
  have HT:=Lib.hid (fun W (hb:Below w.heap.size w W)=>c_toDeedS L A c W ((HA.out.below hb).more hb.size) hn)
  have HS:=Lib.hid (fun (B:Option Addr) (d:Nat) W (hB:Ds3 W W.heap.size B L)=>c_sJournalText L B d W hB (by omega))
  have HI:=Lib.hid (fun (B:Option Addr) (d:Nat) W (hB:Ds3 W W.heap.size B L) (hd:L.length<=d)=>c_iJournalText L B d W hB hd (by omega))
  have HE:=Lib.hid (fun (B C:Option Addr) (b d:Nat) W (hB:Ds3 W W.heap.size B L) (hC:Ds3 W W.heap.size C L)=>c_eqDeedS L B C b d W hB hC hn)
  generalize journalL L=l at HS HI
  have hne:((bs l).toList != (bs l).toList)=false:=by simp
  clear hr
  go_wp2_with fail
  refine (HT.out _ (Below.refl _ _)).mono ?_
  rintro e w1 ⟨v1,rfl,o1,hb1⟩
  obtain ⟨A1,c1,rfl,-,-,hE1⟩:=o1.form
  have hs1:=hb1.size
  go_wp2_with fail
  refine (HS.out A1 c1 _ hE1).mono ?_
  rintro e w2 ⟨rfl,hb2⟩
  have hx2:=hb1.trans (hb2.mono hs1)
  have hs2:=hx2.size
  clear o1 hE1
  go_wp2_with fail
  refine (HT.out _ hx2).mono ?_
  rintro e w3 ⟨v3,rfl,o3,hb3⟩
  obtain ⟨A3,c3,rfl,hc3,-,hE3⟩:=o3.form
  have hx3:=hx2.trans (hb3.mono hs2)
  have hs3:=hx3.size
  go_wp2_with fail
  refine (HI.out A3 c3 _ hE3 hc3).mono ?_
  rintro e w4 ⟨rfl,hb4⟩
  have hx4:=hx3.trans (hb4.mono hs3)
  have hs4:=hb4.size
  have hE4:=(hE3.below hb4).more hs4
  have HE4:=Lib.hid hE4
  clear o3 hE3 hE4
  go_wp2_with fail
  first
   | (refine (HT.out _ hx4).mono ?_
      rintro e w5 ⟨v5,rfl,o5,hb5⟩
      obtain ⟨A5,c5,rfl,-,-,hE5⟩:=o5.form
      have hs5:=hb5.size
      have hx5:=hx4.trans (hb5.mono hx4.size)
      have HE5:=Lib.hid hE5
      clear o5 hE5
      go_wp2_with fail
      refine (HE.out A3 A5 c3 c5 _ ((HE4.out.below hb5).more hs5) HE5.out).mono ?_
      rintro e w6 ⟨rfl,hb6⟩
      go_wp2_with fail
      go_ret
      exact ⟨rfl,hx5.trans (hb6.mono hx5.size)⟩)
   | (go_region_held3 (fun _=>True)
       (first | go_keep | trivial)
       (first
         | (go_at_call 25;(with_reducible refine (HT.out w4.drew (hx4.trans ((Below.refl _ w4).drew.mono hx4.size))).mono ?_);rintro e w5 ⟨v5,rfl,o5,hb5⟩;obtain ⟨A5,c5,rfl,-,-,hE5⟩:=o5.form;have hb45:Below w4.heap.size w4 w5:=(Below.refl _ w4).drew.trans hb5;have HE5:=Lib.hid hE5)
         | (go_at_call 26;refine (HE.out A3 A5 c3 c5 w5 ((HE4.out.below hb45).more hb45.size) HE5.out).mono ?_;rintro e w6 ⟨rfl,hb6⟩;have hb46:Below w4.heap.size w4 w6:=hb45.trans (hb6.mono hb45.size)))
      go_wp2_with fail
      go_ret
      exact ⟨rfl,hx4.trans (hb46.mono hx4.size)⟩)
 ·obtain ⟨rfl,-⟩:r=-1∧True:=by rcases hr with ⟨h1,h2⟩ | ⟨h1,h2⟩ <;> first | exact ⟨h1,trivial⟩ | omega
  clear hr
  go_wp2_with fail
  go_ret
  exact ⟨rfl,Below.refl _ _⟩
end Go.Proofs.YticccnkanihpnaaDoor
namespace Go.Proofs.YticccnkanihpnaaDoor
set_option linter.unusedVariables false
open Go.RowKit Go.ChangeShapes Go.WideShapes Go.ChangeAt Go.Deep
theorem cellsI:Tryd.prog.cellsOf 3=1:=by kernel_rfl
end Go.Proofs.YticccnkanihpnaaDoor
namespace Go.Proofs.YticccnkanihpnaaDoor
set_option linter.unusedVariables false
open Go.RowKit Go.ChangeShapes Go.WideShapes Go.ChangeAt Go.Deep
theorem cellsLD:Tryd.prog.cellsOf 38=3:=by kernel_rfl
theorem deed_cells {H:Type} {enc:TypeId×Value->H} {W:World} {fuel:Nat} {v0 v1 v2:Value} {y:DataW H×List MemPlace} (h:DataW.trod enc Tryd.prog W 0 (fun _=>true) true fuel 38 [v0,v1,v2]=some y) :
  ∃ d:DV,v0=.int .i64 d.k∧v1=.int .i64 d.a∧v2=.int .i64 d.b:=by
 obtain ⟨xs,k,hk,hxy,_,hxl,hf⟩:=DataW.trod_struct Tryd.underlying38 h
 match xs,hxl with
 | [y0,y1,y2],_ =>
  have g0:=hf 0 _ rfl
  have g1:=hf 1 _ rfl
  have g2:=hf 2 _ rfl
  simp [cellsI] at g0 g1 g2
  obtain ⟨x0,e0,-⟩:=DataW.trod_int Tryd.underlying3 g0
  obtain ⟨x1,e1,-⟩:=DataW.trod_int Tryd.underlying3 g1
  obtain ⟨x2,e2,-⟩:=DataW.trod_int Tryd.underlying3 g2
  simp at e0 e1 e2
  exact ⟨⟨x0,x1,x2⟩,e0,e1,e2⟩
theorem open_lawDeeds {H:Type} {enc:TypeId×Value->H} {W:World} {A:Option Addr} {n c:Nat} {d:DataW H} {p:List MemPlace}
  (h:DataW.Trod enc Tryd.prog W 0 (fun _=>true) true 43 (.slice A n c) d p) :
  ∃ L:List DV,L.length=n∧n<=c∧c<=maxLen∧Ds3 W W.heap.size A L:=by
 obtain ⟨fuel,hf⟩:=h
 rcases open_slice Tryd.underlying43 hf with ⟨hcs,_⟩ | ⟨a,len,cap,m,k,D,Pl,hcs,_,hl,hm,hmm,_,hx⟩
 ·simp [Value.cells] at hcs
  obtain ⟨rfl,rfl,rfl⟩:=hcs
  exact ⟨[],rfl,Nat.le_refl _,by simp [maxLen],fun h=>by simp at h⟩
 ·simp [Value.cells] at hcs
  obtain ⟨rfl,rfl,rfl⟩:=hcs
  have hmc:m=c:=by simpa using hmm
  subst hmc
  have each:∀ i,i < m->∃ d:DV,W.cell? (a.add (i * 3))=some (.int .i64 d.k)∧W.cell? (a.add (i * 3+1))=some (.int .i64 d.a)∧W.cell? (a.add (i * 3+2))=some (.int .i64 d.b):=by
   intro i hi
   obtain ⟨cs',h1,h2⟩:=hx i hi
   rw [cellsLD] at h1
   obtain ⟨_,hlen,hcell⟩:=World.cells?_some h1
   match cs',hlen with
   | [v0,v1,v2],_ =>
    obtain ⟨d,rfl,rfl,rfl⟩:=deed_cells h2
    have e0:=hcell 0 (by omega)
    have e1:=hcell 1 (by omega)
    have e2:=hcell 2 (by omega)
    rw [add_add] at e0 e1 e2
    exact ⟨d,by simpa using e0,by simpa using e1,by simpa using e2⟩
  haveI:Inhabited DV:=⟨⟨0,0,0⟩⟩
  obtain ⟨q,hq⟩:=choose_lt each
  refine ⟨(List.range n).map q,by simp,hl,hm,fun hp=>?_⟩
  simp only [List.length_map,List.length_range] at hp
  obtain ⟨b,off,spot⟩:=a
  have hc0:=(hq 0 (by omega)).1
  have hspot:spot=none:=by simpa [Addr.add] using World.cell?_spot hc0
  subst hspot
  have hadd:∀ j,(⟨b,off,none⟩:Addr).add j=⟨b,off+j,none⟩:=by
   intro j
   by_cases e:j=0 <;> simp [Addr.add,e]
  refine ⟨b,off,rfl,?_,fun i hi=>?_⟩
  ·rw [hadd] at hc0
   exact World.block_lt_of_cell? W ⟨b,off+0 * 3,none⟩ hc0
  ·simp only [List.length_map,List.length_range] at hi
   obtain ⟨h0,h1,h2⟩:=hq i (by omega)
   rw [hadd] at h0 h1 h2
   have hz:ZD ((List.range n).map q) i=q i:=by simp [ZD,hi]
   rw [hz]
   exact ⟨h0,by rw [<- Nat.add_assoc] at h1;exact h1,by rw [<- Nat.add_assoc] at h2;exact h2⟩
end Go.Proofs.YticccnkanihpnaaDoor

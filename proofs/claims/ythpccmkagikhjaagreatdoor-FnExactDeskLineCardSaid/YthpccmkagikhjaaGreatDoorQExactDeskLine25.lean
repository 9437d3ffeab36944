import Derived.Test.YthpccmkagikhjaaGreatDoorQExactDeskLine2
import Derived.Test.YthpccmkagikhjaaGreatDoorQExactDeskLine5
import Derived.Test.YthpccmkagikhjaaGreatDoorQExactDeskLine6
import Derived.Test.YthpccmkagikhjaaGreatDoorQExactDeskLine7
import Derived.Test.YthpccmkagikhjaaGreatDoorQExactDeskLine8
import Derived.Test.YthpccmkagikhjaaGreatDoorQExactDeskLine9
import Derived.Test.YthpccmkagikhjaaGreatDoorQExactDeskLine11
import Derived.Test.YthpccmkagikhjaaGreatDoorQExactDeskLine17
import Derived.Test.YthpccmkagikhjaaGreatDoorQExactDeskLine18
import Derived.Test.YthpccmkagikhjaaGreatDoorQExactDeskLine19
import Derived.Test.YthpccmkagikhjaaGreatDoorQExactDeskLine21
import Derived.Test.YthpccmkagikhjaaGreatDoorQExactDeskLine22
import Derived.Test.YthpccmkagikhjaaGreatDoorQExactDeskLine23
import Derived.Test.YthpccmkagikhjaaGreatDoorQExactDeskLine24
import Derived.Lib.AppendZeros
namespace Go.Proofs.YthpccmkagikhjaaGreatDoor
set_option linter.unusedVariables false
open Go.RowKit
set_option maxRecDepth 8000
set_option maxHeartbeats 16000000
section
attribute [local go_sem ↓] Go.wp_at_zero Go.wp_at_succ
theorem Z_vals (r:List (List UInt8)) (k:Nat):Z (valsN r) k=(valN (r.getD k []):Int):=by
 by_cases h:k < r.length
 ·simp [Z,valsN,h]
 ·simp [Z,valsN,h,valN]
theorem names_parts {r:List (List UInt8)} {n:Nat} (h:namesOk r n=true):r.length=n∧r.all dig2=true:=by simpa [namesOk] using h
theorem names_no {r:List (List UInt8)} {n:Nat} (h:namesOk r n=false):¬ (r.length=n∧r.all dig2=true):=by
 intro h2
 have:namesOk r n=true:=by simp [namesOk,h2.1,h2.2]
 rw [h] at this;cases this
theorem forms_ix (f:Fin 5) (w:World):(Instr.index 125 (.agg #[.string ⟨#[99,111,109,101]⟩,.int .i64 2,.string ⟨#[103,111]⟩,.int .i64 0,.string ⟨#[110,101,101,100]⟩,.int .i64 1,.string ⟨#[108,97,116,101,114]⟩,.int .i64 1,.string ⟨#[98,97,99,107]⟩,.int .i64 0]) (.int .i64 ((f.val:Nat):Int))).run Tryz.prog w=.ok (.agg #[.string (bs (wordJ f.val)),.int .i64 ((numJ f.val:Nat):Int)]) w:=by
 obtain ⟨k,h⟩:=f
 obtain rfl | rfl | rfl | rfl | rfl:k=0∨k=1∨k=2∨k=3∨k=4:=by omega
 all_goals kernel_rfl
theorem num_le (f:Fin 5):numJ f.val<=2:=by revert f;decide
attribute [local go_sem ↓] forms_ix
theorem c_iReadDeed (l:List UInt8) (hs:l.length<=100000000) (w:World) (hV:LV w w.heap.size) :
  Calls Tryz.prog 44 #[.string (bs l)] w fun e w'=>e=.returned (readV (readD l))∧Below w.heap.size w w':=by
 obtain ⟨x,r,hcut⟩:=cut_cons 32 l
 obtain ⟨n1,hn1⟩:∃ n1,(cutL 32 l).length=n1:=⟨_,rfl⟩
 have hrl:n1=r.length+1:=by rw [<- hn1,hcut];rfl
 have hrx:∀ k,k < r.length->(ZS r k).length<=100000000:=fun k hk=>by
  have h1:ZS r k ∈ cutL 32 l:=by rw [hcut,ZS_get hk];exact List.mem_cons_of_mem _ (List.getElem_mem hk)
  have:=cut_len _ h1;omega
 have hr1:r.length<=1000000000:=by
  have h2:(cutL 32 l).length<=l.length+1:=by have:=cutS_len 32 l;simp [cutL];omega
  omega
 obtain ⟨w0,hw0⟩:∃ w0,w.alloc (.cells #[.int .i64 0,.int .i64 0,.int .i64 0] 39)=w0:=⟨_,rfl⟩
 have hb0:Below w.heap.size w w0:=by rw [<- hw0];exact (Below.refl _ w).alloc (Nat.le_refl _) _
 have bR:w0.heap[w.heap.size]?=some (.cells #[.int .i64 0,.int .i64 0,.int .i64 0] 39 (0,0)):=by rw [<- hw0];exact heap_alloc_new _ _
 have hz0:w.heap.size < w0.heap.size:=by rw [<- hw0];simp
 have HSp:=Lib.hid (show Calls Tryz.prog 97 #[.string (bs l),.string ⟨#[32]⟩] w0 fun e w'=>e=.returned (.slice (some ⟨w0.heap.size,0,none⟩) n1 n1)∧Ss w' w'.heap.size (some ⟨w0.heap.size,0,none⟩) (x::r)∧Below w0.heap.size w0 w' from by
  have K:=c_split l hs w0 (hV.at hb0)
  rwa [hn1,hcut] at K)
 have HCut:=Lib.hid hcut
 have HV0:=Lib.hid (hV.at hb0)
 clear hcut hn1 hV
 by_cases h1:n1=1
 ·subst h1
  obtain rfl:r=[]:=List.eq_nil_of_length_eq_zero (by omega)
  clear hrl hr1
  go_enter Tryz.func44,Tryz.ntmps44
  go_wp2_with fail
  refine HSp.out.mono ?_
  rintro e w1 ⟨rfl,hS,hb1⟩
  obtain ⟨b',off',e1,hlw,hcw⟩:=hS (by simp)
  cases e1
  have HW0:=Lib.hid (show w1.cell? ⟨w0.heap.size,0,none⟩=some (.string (bs x)) from hcw 0 (by simp))
  have HNum:=Lib.hid (fun (n:Nat) (W:ByteArray) (W':World) (hb:Below w1.heap.size w1 W')=>show Calls Tryz.prog 99 #[.agg #[.string W,.int .i64 (n:Int)],.slice (some ⟨w0.heap.size,0,none⟩) 0 0] W' fun e w'=>(∃ v,e=.returned (.tuple #[v,.bool (namesOk [] n)])∧(namesOk [] n=true->IO w' W'.heap.size v (valsN [])))∧Below W'.heap.size W' w' from
   c_readNumbers [] W n (some ⟨w0.heap.size,0,none⟩) 0 W' (fun h=>by simp at h) (by simp) (fun k hk=>by simp at hk) (HV0.out.at (hb1.trans (hb.mono hb1.size))))
  clear hcw hS hw0
  have hz1:=hb1.size
  obtain ⟨r,hr⟩:∃ r:List (List UInt8),r=[]:=⟨_,rfl⟩
  rw [<- hr] at HNum HCut
  clear hr
  go_wp2_with fail
  refine (c_deedForms _).mono ?_
  rintro e w2 ⟨rfl,hb2⟩
  have hz2:=hb2.size
  go_wp2_with fail
  go_loopw [12] (fun i wr=>∃ k:Nat,k<=5∧i=.int .i64 (k:Int)∧Hid (∀ j,j < k->x≠wordJ j)∧Below w2.heap.size w2 wr) (fun i _=>5 - (intOf i).toNat)
  case atStart=>exact ⟨0,by omega,rfl,Lib.hid (fun j hj=>by omega),Below.refl _ _⟩
  case round =>
   obtain ⟨k,hk,rfl,HN,hb⟩:=hrel
   have hbx:Below w1.heap.size w1 wr:=hb2.trans (hb.mono hz2)
   by_cases h5:k < 5
   ·obtain ⟨f,rfl⟩:∃ f:Fin 5,k=f.val:=⟨⟨k,h5⟩,rfl⟩
    have q5:((f.val:Nat):Int) < 5:=by omega
    have q6:(0:Int)<=((f.val:Nat):Int):=by omega
    clear h5 hk
    ·have HNk:=Lib.hid (fun (W':World) (hb:Below w1.heap.size w1 W')=>show Calls Tryz.prog 99 #[.agg #[.string (bs (wordJ f.val)),.int .i64 (numJ f.val:Int)],.slice (some ⟨w0.heap.size,0,none⟩) 0 0] W' fun e w'=>(∃ v,e=.returned (.tuple #[v,.bool (namesOk r (numJ f.val))])∧(namesOk r (numJ f.val)=true->IO w' W'.heap.size v (valsN r)))∧Below W'.heap.size W' w' from HNum.out (numJ f.val) (bs (wordJ f.val)) W' hb)
     by_cases hx:x=wordJ f.val
     ·have hne:((bs x).toList == (bs (wordJ f.val)).toList)=true:=by rw [hx];simp
      have HC:=Lib.hid (show cutL 32 l=wordJ f.val::r by rw [HCut.out,hx])
      clear hx
      go_wp2_with fail
      obtain ⟨w5,hw5⟩:∃ w5,wr.alloc (.cells #[.string (bs (wordJ f.val)),.int .i64 (numJ f.val:Int)] 82)=w5:=⟨_,rfl⟩
      have hb5:Below wr.heap.size wr w5:=by rw [<- hw5];exact (Below.refl _ wr).alloc (Nat.le_refl _) _
      have b5:w5.heap[wr.heap.size]?=some (.cells #[.string (bs (wordJ f.val)),.int .i64 (numJ f.val:Int)] 82 (0,0)):=by rw [<- hw5];exact heap_alloc_new _ _
      have hz5:wr.heap.size < w5.heap.size:=by rw [<- hw5];simp
      rw [hw5]
      have hx5:=hbx.trans (hb5.mono hbx.size)
      have g0:=cell_of_row _ wr.heap.size 0 _ _ _ b5
      have g1:=cell_of_row _ wr.heap.size 1 _ _ _ b5
      have d0:=(hx5.cell (p:=⟨w0.heap.size,0,none⟩) hlw).trans HW0.out
      go_quiet (fail)
      have HG:=Lib.hid (fun (W':World) (hb:Below w5.heap.size w5 W')=>show W'.cell? ⟨wr.heap.size,0,none⟩=some (.string (bs (wordJ f.val)))∧W'.cell? ⟨wr.heap.size,1,none⟩=some (.int .i64 (numJ f.val:Int)) from ⟨(hb.cell (p:=⟨wr.heap.size,0,none⟩) hz5).trans g0,(hb.cell (p:=⟨wr.heap.size,1,none⟩) hz5).trans g1⟩)
      have hd5:Below w5.heap.size w5 w5.drew:=(Below.refl _ w5).drew
      clear hw5 d0 hb5 b5
      have hx6:=hx5.trans ((Below.drewN (Below.refl w5.heap.size w5) nq).mono hx5.size)
      have hz6:wr.heap.size < (w5.drewN nq).heap.size:=hz5
      have HG6:=Lib.hid (fun (W':World) (hb:Below (w5.drewN nq).heap.size (w5.drewN nq) W')=>HG.out W' ((Below.drewN (Below.refl w5.heap.size w5) nq).trans hb))
      clear g0 g1 hd5 HG hx5 hz5
      generalize w5.drewN nq=w6 at *
      have hd6:Below w6.heap.size w6 w6.drew:=(Below.refl _ w6).drew
      obtain ⟨g0,g1⟩:=HG6.out _ (Below.refl _ w6)
      cases hnm:namesOk r (numJ f.val) with
      | false =>
       have HZ:=Lib.hid hnm
       have HV:=Lib.hid (read_bad (j:=f.val) f.isLt HC.out (show ¬ (r.length=numJ f.val∧r.all dig2=true) from names_no hnm))
       clear hnm
       go_wp2_with fail
       go_region_held3 (fun W'=>W'.cell? ⟨wr.heap.size,0,none⟩=some (.string (bs (wordJ f.val)))∧W'.cell? ⟨wr.heap.size,1,none⟩=some (.int .i64 (numJ f.val:Int)))
        (first
          | exact HG6.out _ hx7
          | go_keep)
        (first
          | (go_at_call 99;refine (HNk.out w6.drew (hx6.trans (hd6.mono hx6.size))).mono ?_;rintro e w7 ⟨⟨v,rfl,-⟩,hb7⟩;rw [HZ.out];have hx7:Below w6.heap.size w6 w7:=hd6.trans hb7)
          | fail)
       have hy7:=hx6.trans (hx7.mono hx6.size)
       have b7:=(hy7.block w.heap.size (by omega)).trans ((hb1.block w.heap.size hz0).trans bR)
       obtain ⟨r0,r1,r2⟩:w7.cell? ⟨w.heap.size,0,none⟩=some (.int .i64 0)∧w7.cell? ⟨w.heap.size,1,none⟩=some (.int .i64 0)∧w7.cell? ⟨w.heap.size,2,none⟩=some (.int .i64 0):=⟨cell_of_row _ _ 0 _ _ _ b7,cell_of_row _ _ 1 _ _ _ b7,cell_of_row _ _ 2 _ _ _ b7⟩
       obtain ⟨f0,f1,f2⟩:w7.frozen? ⟨w.heap.size,0,none⟩=false∧w7.frozen? ⟨w.heap.size,1,none⟩=false∧w7.frozen? ⟨w.heap.size,2,none⟩=false:=⟨unfrozenB b7,unfrozenB b7,unfrozenB b7⟩
       have HY:=Lib.hid (hb0.trans ((hb1.trans (hy7.mono hz1)).mono (Nat.le_of_lt hz0)))
       clear g0 g1 hx7 hy7 hb7 hd6 hx6
       go_wp2_with fail
       obtain ⟨m0,m1,m2⟩:=put3 (.int .i64 0) (.int .i64 0) (.int .i64 0) b7
       refine bodyPost_ret (v:=.tuple #[.agg #[.int .i64 0,.int .i64 0,.int .i64 0],.bool false]) (by simp [results,Tryz.f44,go_sem,m0,m1,m2]) rfl ?_
       exact ⟨by rw [HV.out];rfl,((HY.out.setCell (p:=⟨w.heap.size,0,none⟩) (Nat.le_refl _) _).setCell (p:=⟨w.heap.size,1,none⟩) (Nat.le_refl _) _).setCell (p:=⟨w.heap.size,2,none⟩) (Nat.le_refl _) _⟩
      | true =>
       have HZ:=Lib.hid hnm
       have hp:=names_parts hnm
       have HV:=Lib.hid (read_yes (j:=f.val) f.isLt HC.out (show r.length=numJ f.val from hp.1) hp.2)
       have hl2:(valsN r).length<=2:=by rw [valsN,List.length_map,hp.1];exact num_le f
       clear hnm hp
       go_wp2_with fail
       go_region_held3 (fun W'=>W'.cell? ⟨wr.heap.size,0,none⟩=some (.string (bs (wordJ f.val)))∧W'.cell? ⟨wr.heap.size,1,none⟩=some (.int .i64 (numJ f.val:Int)))
        (first
          | exact HG6.out _ hx7
          | go_keep)
        (first
          | (go_at_call 99;refine (HNk.out w6.drew (hx6.trans (hd6.mono hx6.size))).mono ?_;rintro e w7 ⟨⟨v,rfl,hv⟩,hb7⟩;obtain ⟨A7,c7,rfl,-,-,hI7⟩:=(hv HZ.out).form;rw [HZ.out];have hx7:Below w6.heap.size w6 w7:=hd6.trans hb7)
          | fail)
       have hy7:=hx6.trans (hx7.mono hx6.size)
       have HD:=Lib.hid (show Calls Tryz.prog 100 #[.int .i64 (f.val:Int),.slice A7 (valsN r).length c7] w7 fun e w'=>e=.returned (.agg #[.int .i64 (f.val:Int),.int .i64 (Z (valsN r) 0),.int .i64 (Z (valsN r) 1)])∧Below w7.heap.size w7 w' from c_deedOf (f.val:Int) (valsN r) A7 c7 w7 hI7 hl2)
       have HY7:=Lib.hid hy7
       clear g0 g1 hx7 hy7 hb7 hd6 hx6 hv hI7 hl2
       go_wp2_with fail
       refine HD.out.mono ?_
       rintro e w8 ⟨rfl,hb8⟩
       have hy8:=HY7.out.trans (hb8.mono HY7.out.size)
       have b7:=(hy8.block w.heap.size (by omega)).trans ((hb1.block w.heap.size hz0).trans bR)
       obtain ⟨r0,r1,r2⟩:w8.cell? ⟨w.heap.size,0,none⟩=some (.int .i64 0)∧w8.cell? ⟨w.heap.size,1,none⟩=some (.int .i64 0)∧w8.cell? ⟨w.heap.size,2,none⟩=some (.int .i64 0):=⟨cell_of_row _ _ 0 _ _ _ b7,cell_of_row _ _ 1 _ _ _ b7,cell_of_row _ _ 2 _ _ _ b7⟩
       obtain ⟨f0,f1,f2⟩:w8.frozen? ⟨w.heap.size,0,none⟩=false∧w8.frozen? ⟨w.heap.size,1,none⟩=false∧w8.frozen? ⟨w.heap.size,2,none⟩=false:=⟨unfrozenB b7,unfrozenB b7,unfrozenB b7⟩
       have HY:=Lib.hid (hb0.trans ((hb1.trans (hy8.mono hz1)).mono (Nat.le_of_lt hz0)))
       clear hy8 hb8
       go_wp2_with fail
       obtain ⟨m0,m1,m2⟩:=put3 (.int .i64 (f.val:Int)) (.int .i64 (Z (valsN r) 0)) (.int .i64 (Z (valsN r) 1)) b7
       refine bodyPost_ret (v:=.tuple #[.agg #[.int .i64 (f.val:Int),.int .i64 (Z (valsN r) 0),.int .i64 (Z (valsN r) 1)],.bool true]) (by simp [results,Tryz.f44,go_sem,m0,m1,m2]) rfl ?_
       exact ⟨by rw [HV.out,Z_vals,Z_vals];rfl,((HY.out.setCell (p:=⟨w.heap.size,0,none⟩) (Nat.le_refl _) _).setCell (p:=⟨w.heap.size,1,none⟩) (Nat.le_refl _) _).setCell (p:=⟨w.heap.size,2,none⟩) (Nat.le_refl _) _⟩
     ·have hne:((bs x).toList == (bs (wordJ f.val)).toList)=false:=by rw [bs_list,bs_list];simpa using hx
      have HNx:=Lib.hid (show ∀ j,j < f.val+1->x≠wordJ j from fun j hj=>by
       rcases Nat.lt_succ_iff_lt_or_eq.1 hj with h | rfl
       ·exact HN.out j h
       ·exact hx)
      clear hx
      go_wp2_with fail
      obtain ⟨w5,hw5⟩:∃ w5,wr.alloc (.cells #[.string (bs (wordJ f.val)),.int .i64 (numJ f.val:Int)] 82)=w5:=⟨_,rfl⟩
      have hb5:Below wr.heap.size wr w5:=by rw [<- hw5];exact (Below.refl _ wr).alloc (Nat.le_refl _) _
      have b5:w5.heap[wr.heap.size]?=some (.cells #[.string (bs (wordJ f.val)),.int .i64 (numJ f.val:Int)] 82 (0,0)):=by rw [<- hw5];exact heap_alloc_new _ _
      rw [hw5]
      have hx5:=hbx.trans (hb5.mono hbx.size)
      have g0:=cell_of_row _ wr.heap.size 0 _ _ _ b5
      have d0:=(hx5.cell (p:=⟨w0.heap.size,0,none⟩) hlw).trans HW0.out
      go_quiet (fail)
      have HB6:=Lib.hid (show Below w2.heap.size w2 (w5.drewN nq) from hb.trans ((hb5.trans (Below.drewN (Below.refl wr.heap.size w5) nq)).mono hb.size))
      clear hw5 d0 g0 hb5 b5 hx5
      generalize w5.drewN nq=w6 at *
      go_wp2_with fail
      go_roundw
      case rel=>exact ⟨f.val+1,f.isLt,by go_num,HNx,HB6.out⟩
      case measure=>simp [intOf];omega
   ·have hk5:k=5:=by omega
    have HV:=Lib.hid (read_none HCut.out (fun j hj=>HN.out j (by omega)))
    subst hk5
    have b7:=(hbx.block w.heap.size (by omega)).trans ((hb1.block w.heap.size hz0).trans bR)
    obtain ⟨r0,r1,r2⟩:wr.cell? ⟨w.heap.size,0,none⟩=some (.int .i64 0)∧wr.cell? ⟨w.heap.size,1,none⟩=some (.int .i64 0)∧wr.cell? ⟨w.heap.size,2,none⟩=some (.int .i64 0):=⟨cell_of_row _ _ 0 _ _ _ b7,cell_of_row _ _ 1 _ _ _ b7,cell_of_row _ _ 2 _ _ _ b7⟩
    obtain ⟨f0,f1,f2⟩:wr.frozen? ⟨w.heap.size,0,none⟩=false∧wr.frozen? ⟨w.heap.size,1,none⟩=false∧wr.frozen? ⟨w.heap.size,2,none⟩=false:=⟨unfrozenB b7,unfrozenB b7,unfrozenB b7⟩
    have HY:=Lib.hid (hb0.trans ((hb1.trans (hbx.mono hz1)).mono (Nat.le_of_lt hz0)))
    go_wp2_with fail
    obtain ⟨m0,m1,m2⟩:=put3 (.int .i64 0) (.int .i64 0) (.int .i64 0) b7
    refine bodyPost_ret (v:=.tuple #[.agg #[.int .i64 0,.int .i64 0,.int .i64 0],.bool false]) (by simp [results,Tryz.f44,go_sem,m0,m1,m2]) rfl ?_
    exact ⟨by rw [HV.out];rfl,((HY.out.setCell (p:=⟨w.heap.size,0,none⟩) (Nat.le_refl _) _).setCell (p:=⟨w.heap.size,1,none⟩) (Nat.le_refl _) _).setCell (p:=⟨w.heap.size,2,none⟩) (Nat.le_refl _) _⟩
 ·have s0:0 < n1:=by omega
  go_enter Tryz.func44,Tryz.ntmps44
  go_wp2_with fail
  refine HSp.out.mono ?_
  rintro e w1 ⟨rfl,hS,hb1⟩
  obtain ⟨b',off',e1,hlw,hcw⟩:=hS (by simp)
  cases e1
  have HW0:=Lib.hid (show w1.cell? ⟨w0.heap.size,0,none⟩=some (.string (bs x)) from hcw 0 (by simp))
  have HNum:=Lib.hid (fun (n:Nat) (W:ByteArray) (W':World) (hb:Below w1.heap.size w1 W')=>show Calls Tryz.prog 99 #[.agg #[.string W,.int .i64 (n:Int)],.slice (some ⟨w0.heap.size,1,none⟩) (n1 - 1) (n1 - 1)] W' fun e w'=>(∃ v,e=.returned (.tuple #[v,.bool (namesOk r n)])∧(namesOk r n=true->IO w' W'.heap.size v (valsN r)))∧Below W'.heap.size W' w' from by
   have hr0:Ss w1 w1.heap.size (some ⟨w0.heap.size,0+1,none⟩) ((x::r).drop 1):=hS.drop 1
   have K:=c_readNumbers r W n (some ⟨w0.heap.size,1,none⟩) r.length W' (((by simpa using hr0:Ss w1 w1.heap.size (some ⟨w0.heap.size,1,none⟩) r).below hb).more hb.size) hr1 hrx (HV0.out.at (hb1.trans (hb.mono hb1.size)))
   rwa [show r.length=n1 - 1 by omega] at K)
  clear hcw hS hw0
  have hz1:=hb1.size
  have s1:1 < n1:=by omega
  have s2:(1:Int)<=(n1:Int):=by omega
  clear hrl hr1 hrx
  go_wp2_with fail
  refine (c_deedForms _).mono ?_
  rintro e w2 ⟨rfl,hb2⟩
  have hz2:=hb2.size
  go_wp2_with fail
  go_loopw [12] (fun i wr=>∃ k:Nat,k<=5∧i=.int .i64 (k:Int)∧Hid (∀ j,j < k->x≠wordJ j)∧Below w2.heap.size w2 wr) (fun i _=>5 - (intOf i).toNat)
  case atStart=>exact ⟨0,by omega,rfl,Lib.hid (fun j hj=>by omega),Below.refl _ _⟩
  case round =>
   obtain ⟨k,hk,rfl,HN,hb⟩:=hrel
   have hbx:Below w1.heap.size w1 wr:=hb2.trans (hb.mono hz2)
   by_cases h5:k < 5
   ·obtain ⟨f,rfl⟩:∃ f:Fin 5,k=f.val:=⟨⟨k,h5⟩,rfl⟩
    have q5:((f.val:Nat):Int) < 5:=by omega
    have q6:(0:Int)<=((f.val:Nat):Int):=by omega
    clear h5 hk
    ·have HNk:=Lib.hid (fun (W':World) (hb:Below w1.heap.size w1 W')=>show Calls Tryz.prog 99 #[.agg #[.string (bs (wordJ f.val)),.int .i64 (numJ f.val:Int)],.slice (some ⟨w0.heap.size,1,none⟩) (n1 - 1) (n1 - 1)] W' fun e w'=>(∃ v,e=.returned (.tuple #[v,.bool (namesOk r (numJ f.val))])∧(namesOk r (numJ f.val)=true->IO w' W'.heap.size v (valsN r)))∧Below W'.heap.size W' w' from HNum.out (numJ f.val) (bs (wordJ f.val)) W' hb)
     by_cases hx:x=wordJ f.val
     ·have hne:((bs x).toList == (bs (wordJ f.val)).toList)=true:=by rw [hx];simp
      have HC:=Lib.hid (show cutL 32 l=wordJ f.val::r by rw [HCut.out,hx])
      clear hx
      go_wp2_with fail
      obtain ⟨w5,hw5⟩:∃ w5,wr.alloc (.cells #[.string (bs (wordJ f.val)),.int .i64 (numJ f.val:Int)] 82)=w5:=⟨_,rfl⟩
      have hb5:Below wr.heap.size wr w5:=by rw [<- hw5];exact (Below.refl _ wr).alloc (Nat.le_refl _) _
      have b5:w5.heap[wr.heap.size]?=some (.cells #[.string (bs (wordJ f.val)),.int .i64 (numJ f.val:Int)] 82 (0,0)):=by rw [<- hw5];exact heap_alloc_new _ _
      have hz5:wr.heap.size < w5.heap.size:=by rw [<- hw5];simp
      rw [hw5]
      have hx5:=hbx.trans (hb5.mono hbx.size)
      have g0:=cell_of_row _ wr.heap.size 0 _ _ _ b5
      have g1:=cell_of_row _ wr.heap.size 1 _ _ _ b5
      have d0:=(hx5.cell (p:=⟨w0.heap.size,0,none⟩) hlw).trans HW0.out
      go_quiet (fail)
      have HG:=Lib.hid (fun (W':World) (hb:Below w5.heap.size w5 W')=>show W'.cell? ⟨wr.heap.size,0,none⟩=some (.string (bs (wordJ f.val)))∧W'.cell? ⟨wr.heap.size,1,none⟩=some (.int .i64 (numJ f.val:Int)) from ⟨(hb.cell (p:=⟨wr.heap.size,0,none⟩) hz5).trans g0,(hb.cell (p:=⟨wr.heap.size,1,none⟩) hz5).trans g1⟩)
      have hd5:Below w5.heap.size w5 w5.drew:=(Below.refl _ w5).drew
      clear hw5 d0 hb5 b5
      have hx6:=hx5.trans ((Below.drewN (Below.refl w5.heap.size w5) nq).mono hx5.size)
      have hz6:wr.heap.size < (w5.drewN nq).heap.size:=hz5
      have HG6:=Lib.hid (fun (W':World) (hb:Below (w5.drewN nq).heap.size (w5.drewN nq) W')=>HG.out W' ((Below.drewN (Below.refl w5.heap.size w5) nq).trans hb))
      clear g0 g1 hd5 HG hx5 hz5
      generalize w5.drewN nq=w6 at *
      have hd6:Below w6.heap.size w6 w6.drew:=(Below.refl _ w6).drew
      obtain ⟨g0,g1⟩:=HG6.out _ (Below.refl _ w6)
      cases hnm:namesOk r (numJ f.val) with
      | false =>
       have HZ:=Lib.hid hnm
       have HV:=Lib.hid (read_bad (j:=f.val) f.isLt HC.out (show ¬ (r.length=numJ f.val∧r.all dig2=true) from names_no hnm))
       clear hnm
       go_wp2_with fail
       go_region_held3 (fun W'=>W'.cell? ⟨wr.heap.size,0,none⟩=some (.string (bs (wordJ f.val)))∧W'.cell? ⟨wr.heap.size,1,none⟩=some (.int .i64 (numJ f.val:Int)))
        (first
          | exact HG6.out _ hx7
          | go_keep)
        (first
          | (go_at_call 99;refine (HNk.out w6.drew (hx6.trans (hd6.mono hx6.size))).mono ?_;rintro e w7 ⟨⟨v,rfl,-⟩,hb7⟩;rw [HZ.out];have hx7:Below w6.heap.size w6 w7:=hd6.trans hb7)
          | fail)
       have hy7:=hx6.trans (hx7.mono hx6.size)
       have b7:=(hy7.block w.heap.size (by omega)).trans ((hb1.block w.heap.size hz0).trans bR)
       obtain ⟨r0,r1,r2⟩:w7.cell? ⟨w.heap.size,0,none⟩=some (.int .i64 0)∧w7.cell? ⟨w.heap.size,1,none⟩=some (.int .i64 0)∧w7.cell? ⟨w.heap.size,2,none⟩=some (.int .i64 0):=⟨cell_of_row _ _ 0 _ _ _ b7,cell_of_row _ _ 1 _ _ _ b7,cell_of_row _ _ 2 _ _ _ b7⟩
       obtain ⟨f0,f1,f2⟩:w7.frozen? ⟨w.heap.size,0,none⟩=false∧w7.frozen? ⟨w.heap.size,1,none⟩=false∧w7.frozen? ⟨w.heap.size,2,none⟩=false:=⟨unfrozenB b7,unfrozenB b7,unfrozenB b7⟩
       have HY:=Lib.hid (hb0.trans ((hb1.trans (hy7.mono hz1)).mono (Nat.le_of_lt hz0)))
       clear g0 g1 hx7 hy7 hb7 hd6 hx6
       go_wp2_with fail
       obtain ⟨m0,m1,m2⟩:=put3 (.int .i64 0) (.int .i64 0) (.int .i64 0) b7
       refine bodyPost_ret (v:=.tuple #[.agg #[.int .i64 0,.int .i64 0,.int .i64 0],.bool false]) (by simp [results,Tryz.f44,go_sem,m0,m1,m2]) rfl ?_
       exact ⟨by rw [HV.out];rfl,((HY.out.setCell (p:=⟨w.heap.size,0,none⟩) (Nat.le_refl _) _).setCell (p:=⟨w.heap.size,1,none⟩) (Nat.le_refl _) _).setCell (p:=⟨w.heap.size,2,none⟩) (Nat.le_refl _) _⟩
      | true =>
       have HZ:=Lib.hid hnm
       have hp:=names_parts hnm
       have HV:=Lib.hid (read_yes (j:=f.val) f.isLt HC.out (show r.length=numJ f.val from hp.1) hp.2)
       have hl2:(valsN r).length<=2:=by rw [valsN,List.length_map,hp.1];exact num_le f
       clear hnm hp
       go_wp2_with fail
       go_region_held3 (fun W'=>W'.cell? ⟨wr.heap.size,0,none⟩=some (.string (bs (wordJ f.val)))∧W'.cell? ⟨wr.heap.size,1,none⟩=some (.int .i64 (numJ f.val:Int)))
        (first
          | exact HG6.out _ hx7
          | go_keep)
        (first
          | (go_at_call 99;refine (HNk.out w6.drew (hx6.trans (hd6.mono hx6.size))).mono ?_;rintro e w7 ⟨⟨v,rfl,hv⟩,hb7⟩;obtain ⟨A7,c7,rfl,-,-,hI7⟩:=(hv HZ.out).form;rw [HZ.out];have hx7:Below w6.heap.size w6 w7:=hd6.trans hb7)
          | fail)
       have hy7:=hx6.trans (hx7.mono hx6.size)
       have HD:=Lib.hid (show Calls Tryz.prog 100 #[.int .i64 (f.val:Int),.slice A7 (valsN r).length c7] w7 fun e w'=>e=.returned (.agg #[.int .i64 (f.val:Int),.int .i64 (Z (valsN r) 0),.int .i64 (Z (valsN r) 1)])∧Below w7.heap.size w7 w' from c_deedOf (f.val:Int) (valsN r) A7 c7 w7 hI7 hl2)
       have HY7:=Lib.hid hy7
       clear g0 g1 hx7 hy7 hb7 hd6 hx6 hv hI7 hl2
       go_wp2_with fail
       refine HD.out.mono ?_
       rintro e w8 ⟨rfl,hb8⟩
       have hy8:=HY7.out.trans (hb8.mono HY7.out.size)
       have b7:=(hy8.block w.heap.size (by omega)).trans ((hb1.block w.heap.size hz0).trans bR)
       obtain ⟨r0,r1,r2⟩:w8.cell? ⟨w.heap.size,0,none⟩=some (.int .i64 0)∧w8.cell? ⟨w.heap.size,1,none⟩=some (.int .i64 0)∧w8.cell? ⟨w.heap.size,2,none⟩=some (.int .i64 0):=⟨cell_of_row _ _ 0 _ _ _ b7,cell_of_row _ _ 1 _ _ _ b7,cell_of_row _ _ 2 _ _ _ b7⟩
       obtain ⟨f0,f1,f2⟩:w8.frozen? ⟨w.heap.size,0,none⟩=false∧w8.frozen? ⟨w.heap.size,1,none⟩=false∧w8.frozen? ⟨w.heap.size,2,none⟩=false:=⟨unfrozenB b7,unfrozenB b7,unfrozenB b7⟩
       have HY:=Lib.hid (hb0.trans ((hb1.trans (hy8.mono hz1)).mono (Nat.le_of_lt hz0)))
       clear hy8 hb8
       go_wp2_with fail
       obtain ⟨m0,m1,m2⟩:=put3 (.int .i64 (f.val:Int)) (.int .i64 (Z (valsN r) 0)) (.int .i64 (Z (valsN r) 1)) b7
       refine bodyPost_ret (v:=.tuple #[.agg #[.int .i64 (f.val:Int),.int .i64 (Z (valsN r) 0),.int .i64 (Z (valsN r) 1)],.bool true]) (by simp [results,Tryz.f44,go_sem,m0,m1,m2]) rfl ?_
       exact ⟨by rw [HV.out,Z_vals,Z_vals];rfl,((HY.out.setCell (p:=⟨w.heap.size,0,none⟩) (Nat.le_refl _) _).setCell (p:=⟨w.heap.size,1,none⟩) (Nat.le_refl _) _).setCell (p:=⟨w.heap.size,2,none⟩) (Nat.le_refl _) _⟩
     ·have hne:((bs x).toList == (bs (wordJ f.val)).toList)=false:=by rw [bs_list,bs_list];simpa using hx
      have HNx:=Lib.hid (show ∀ j,j < f.val+1->x≠wordJ j from fun j hj=>by
       rcases Nat.lt_succ_iff_lt_or_eq.1 hj with h | rfl
       ·exact HN.out j h
       ·exact hx)
      clear hx
      go_wp2_with fail
      obtain ⟨w5,hw5⟩:∃ w5,wr.alloc (.cells #[.string (bs (wordJ f.val)),.int .i64 (numJ f.val:Int)] 82)=w5:=⟨_,rfl⟩
      have hb5:Below wr.heap.size wr w5:=by rw [<- hw5];exact (Below.refl _ wr).alloc (Nat.le_refl _) _
      have b5:w5.heap[wr.heap.size]?=some (.cells #[.string (bs (wordJ f.val)),.int .i64 (numJ f.val:Int)] 82 (0,0)):=by rw [<- hw5];exact heap_alloc_new _ _
      rw [hw5]
      have hx5:=hbx.trans (hb5.mono hbx.size)
      have g0:=cell_of_row _ wr.heap.size 0 _ _ _ b5
      have d0:=(hx5.cell (p:=⟨w0.heap.size,0,none⟩) hlw).trans HW0.out
      go_quiet (fail)
      have HB6:=Lib.hid (show Below w2.heap.size w2 (w5.drewN nq) from hb.trans ((hb5.trans (Below.drewN (Below.refl wr.heap.size w5) nq)).mono hb.size))
      clear hw5 d0 g0 hb5 b5 hx5
      generalize w5.drewN nq=w6 at *
      go_wp2_with fail
      go_roundw
      case rel=>exact ⟨f.val+1,f.isLt,by go_num,HNx,HB6.out⟩
      case measure=>simp [intOf];omega
   ·have hk5:k=5:=by omega
    have HV:=Lib.hid (read_none HCut.out (fun j hj=>HN.out j (by omega)))
    subst hk5
    have b7:=(hbx.block w.heap.size (by omega)).trans ((hb1.block w.heap.size hz0).trans bR)
    obtain ⟨r0,r1,r2⟩:wr.cell? ⟨w.heap.size,0,none⟩=some (.int .i64 0)∧wr.cell? ⟨w.heap.size,1,none⟩=some (.int .i64 0)∧wr.cell? ⟨w.heap.size,2,none⟩=some (.int .i64 0):=⟨cell_of_row _ _ 0 _ _ _ b7,cell_of_row _ _ 1 _ _ _ b7,cell_of_row _ _ 2 _ _ _ b7⟩
    obtain ⟨f0,f1,f2⟩:wr.frozen? ⟨w.heap.size,0,none⟩=false∧wr.frozen? ⟨w.heap.size,1,none⟩=false∧wr.frozen? ⟨w.heap.size,2,none⟩=false:=⟨unfrozenB b7,unfrozenB b7,unfrozenB b7⟩
    have HY:=Lib.hid (hb0.trans ((hb1.trans (hbx.mono hz1)).mono (Nat.le_of_lt hz0)))
    go_wp2_with fail
    obtain ⟨m0,m1,m2⟩:=put3 (.int .i64 0) (.int .i64 0) (.int .i64 0) b7
    refine bodyPost_ret (v:=.tuple #[.agg #[.int .i64 0,.int .i64 0,.int .i64 0],.bool false]) (by simp [results,Tryz.f44,go_sem,m0,m1,m2]) rfl ?_
    exact ⟨by rw [HV.out];rfl,((HY.out.setCell (p:=⟨w.heap.size,0,none⟩) (Nat.le_refl _) _).setCell (p:=⟨w.heap.size,1,none⟩) (Nat.le_refl _) _).setCell (p:=⟨w.heap.size,2,none⟩) (Nat.le_refl _) _⟩
end
section
attribute [local go_sem ↓] Go.wp_at_zero Go.wp_at_succ
structure LawK (w:World) (vn vp:Value) (D:KV):Prop where
 ks:Ks w w.heap.size vn vp D
 l1:D.now.length<=9223372036854775807
 l2:D.past.length<=9223372036854775807
 l3:∀ k,k < D.past.length->(LL D.past k).length<=9223372036854775807
theorem small_all {D:KV} {r:Int} (h0:0<=r) (h:r+(D.past.length:Int)+(allK D:Int)=1048576):(D.now.length<=1048576∧D.past.length<=1048576∧totL D.past D.past.length<=1048576)∧(∀ k,k < D.past.length->(LL D.past k).length<=1048576)∧SmallK D:=by
 simp only [allK] at h
 have hk:∀ k,k < D.past.length->(LL D.past k).length<=1048576:=fun k hk=>by have:=totL_at hk;omega
 exact ⟨⟨by omega,by omega,by omega⟩,hk,by omega,by omega,fun k h=>by have:=hk k h;omega⟩
theorem ks_up {w W:World} {vn vp:Value} {D:KV} (h:Ks w w.heap.size vn vp D) (hb:Below w.heap.size w W):Ks W W.heap.size vn vp D:=(h.below hb).more hb.size
end
section
attribute [local go_sem ↓] Go.wp_at_zero Go.wp_at_succ
theorem small_of {D:KV} (h:deskOk D=true):(D.now.length<=1048576∧D.past.length<=1048576∧totL D.past D.past.length<=1048576)∧∀ k,k < D.past.length->(LL D.past k).length<=1048576:=by
 obtain ⟨h1,h2,h3⟩:=deskOk_parts h
 have h8:∀ k,k < D.past.length->(LL D.past k).length<=8:=fun k hk=>by rw [LL_get hk];exact cOk_len (h1 _ (List.getElem_mem _))
 have ht:∀ k,k<=D.past.length->totL D.past k<=8 * k:=by
  intro k
  induction k with
  | zero=>intro _;exact Nat.le_refl _
  | succ k ih=>intro hk;have:=ih (by omega);have:=h8 k (by omega);simp only [totL];omega
 have:=cOk_len h2
 have:=ht D.past.length (Nat.le_refl _)
 exact ⟨⟨by omega,by omega,by omega⟩,fun k hk=>by have:=h8 k hk;omega⟩
end
section
attribute [local go_sem ↓] Go.wp_at_zero Go.wp_at_succ
theorem c_growNil (n:Nat) (hn:n<=1000000) (w:World) :
  Calls Tryz.prog 197 #[.slice none 0 0,.int .i64 (n:Int)] w fun e w'=>∃ v,e=.returned v∧IO w' w.heap.size v []∧Below w.heap.size w w':=by
 obtain ⟨i0,hi,hz0,hz1,hz2⟩:=info_parts infoI
 by_cases h0:0 < n
 ·have p0:¬ (n:Int) < 0:=by omega
  have p1:(0:Int) < (n:Int):=by omega
  have hr:=fun ty=>Lib.run_append_nil_zeros (P:=Tryz.prog) w 85 3 ty 3 i0 _ .i64 .i64 Tryz.underlying85 Tryz.underlying3 hi hz0 n h0 (by rw [hz1];omega) (by omega) (by rw [hz2];omega)
  have hge:=grownCap_ge w n 0 3
  have hcm:=grownCap_le_maxLen w n 0 3 (by simp only [maxLen];omega)
  have q1:IntKind.i64.wrap (n:Int)=(n:Int):=IntWalk.i64_in _ (by omega)
  have ho:=World.ownsRow_made (base:=w.heap.size) (e:=3) (size:=1) w.drew (Builtin.zeroCells (Value.int .i64 0).cells n++Builtin.zeroCells (Value.int .i64 0).cells (grownCap w n 0 3 - n)) (grownCap w n 0 3) (Nat.le_refl _) hcm (by simp only [Array.size_append,size_zeroCells];simp [Value.cells];omega)
  have HO:=Lib.hid ho
  have hz:=hz2
  clear ho
  generalize hcp:grownCap w n 0 3=cp at *
  go_enter Tryz.func197,Tryz.ntmps197
  go_wp2_with (refine Lib.wpList_append_run w (by rfl) (.tmp 20) (.tmp 21) 85 3 (by rfl) (.slice none 0 0) (.int .i64 (n:Int)) (by rfl) (by rfl) _ _ (hr _) ?_)
  go_ret
  exact ⟨_,rfl,HO.out,(Below.refl _ w).drew.alloc (Nat.le_refl _) _⟩
 ·obtain rfl:n=0:=by omega
  go_enter Tryz.func197,Tryz.ntmps197
  go_wp2_with fail
  go_ret
  exact ⟨_,rfl,IO.nil _ _,Below.refl _ _⟩
def ffl (xss:List (List Int)) (k:Nat):List Int:=(xss.take k).flatten
def row12 (xss:List (List Int)) (k:Nat):List Int:=xss.getD k []
theorem ffl_all (xss:List (List Int)):ffl xss xss.length=xss.flatten:=by rw [ffl,List.take_length]
theorem ffl_succ {xss:List (List Int)} {k:Nat} (h:k < xss.length):ffl xss (k+1)=ffl xss k++row12 xss k:=by
 rw [ffl,ffl,row12,<- List.take_append_getElem h,List.flatten_append];simp [h]
theorem ffl_le (xss:List (List Int)) (k:Nat):(ffl xss k).length<=xss.flatten.length:=by
 have e:xss.flatten=(xss.take k).flatten++(xss.drop k).flatten:=by rw [<- List.flatten_append,List.take_append_drop]
 rw [e,List.length_append,ffl];omega
def Iss (w:World) (B:Nat) (A:Option Addr) (xss:List (List Int)):Prop :=
 0 < xss.length->∃ g off,A=some ⟨g,off,none⟩∧g < B∧∀ k,k < xss.length->∃ Ak ck,w.cell? ⟨g,off+k,none⟩=some (.slice Ak (row12 xss k).length ck)∧Is w B Ak (row12 xss k)
theorem IOO.iss {w:World} {base:Nat} {v:Value} {xss:List (List Int)} {vs:List Value} (h:IOO w base v xss vs):∃ A c,v=.slice A xss.length c∧Iss w w.heap.size A xss:=by
 obtain ⟨A,c,e,-,-,hc⟩:=h.form
 refine ⟨A,c,e,fun hp=>?_⟩
 obtain ⟨g,rfl,-,hg,hcc,-⟩:=hc hp
 refine ⟨g,0,rfl,hg,fun k hk=>?_⟩
 obtain ⟨Ak,ck,e1,-,-,hI⟩:=(h.inner k hk).form
 exact ⟨Ak,ck,by rw [Nat.zero_add,hcc k hk,e1];rfl,hI⟩
theorem c_concat (xss:List (List Int)) (A:Option Addr) (c:Nat) (w:World) (hA:Iss w w.heap.size A xss) (hn:xss.length<=1000000) (hl:xss.flatten.length<=1000000) :
  Calls Tryz.prog 167 #[.slice A xss.length c] w fun e w'=>∃ v,e=.returned v∧IO w' w.heap.size v xss.flatten∧Below w.heap.size w w':=by
 have HA:=Lib.hid hA
 have HL:=Lib.hid (fun k=>show (ffl xss k).length<=1000000 by have:=ffl_le xss k;omega)
 have HT:=Lib.hid (fun k (hk:k < xss.length)=>ffl_succ hk)
 have HG:=Lib.hid (fun W=>c_growNil (ffl xss xss.length).length (by rw [ffl_all];exact hl) W)
 have HAll:=Lib.hid (ffl_all xss)
 clear hA hl
 go_enter Tryz.func167,Tryz.ntmps167
 go_wp2_with fail
 go_loopw [3,11] (fun s i wr=>∃ k:Nat,k<=xss.length∧i=.int .i64 (k:Int)∧s=.int .i64 ((ffl xss k).length:Int)∧Below w.heap.size w wr) (fun _ i _=>xss.length - (intOf i).toNat)
 case atStart=>exact ⟨0,by omega,rfl,rfl,Below.refl _ _⟩
 case round =>
  obtain ⟨k,hk,rfl,rfl,hb0⟩:=hrel
  by_cases hlt:k < xss.length
  ·obtain ⟨g,off,rfl,hg,hc⟩:=HA.out (by omega)
   obtain ⟨Ak,ck,e0,-⟩:=hc k hlt
   have e1:=(hb0.cell (p:=⟨g,off+k,none⟩) hg).trans e0
   clear e0
   have p1:(0:Int)<=(k:Int):=by omega
   have p2:(k:Int) < (xss.length:Int):=by omega
   have h1:=HL.out (k+1)
   have h3:(ffl xss (k+1)).length=(ffl xss k).length+(row12 xss k).length:=by rw [HT.out k hlt,List.length_append]
   obtain ⟨m,hm⟩:∃ m,(row12 xss k).length=m:=⟨_,rfl⟩
   obtain ⟨q,hq⟩:∃ q,(ffl xss k).length=q:=⟨_,rfl⟩
   rw [hm] at e1
   have HQ:=Lib.hid (show (ffl xss (k+1)).length=q+m by rw [h3,hm,hq])
   have q1:IntKind.i64.wrap ((q:Int)+(m:Int))=(q:Int)+(m:Int):=IntWalk.i64_in _ (by omega)
   have q2:¬ ((q:Int)+(m:Int) < 0):=by omega
   rw [hq]
   clear h1 h3 hm hq hc
   go_wp2_with fail
   go_roundw
   case rel=>exact ⟨k+1,by omega,by go_num,by rw [HQ.out];go_num,hb0⟩
   case measure=>simp [intOf];omega
  ·have p2:¬ (k:Int) < (xss.length:Int):=by omega
   obtain rfl:k=xss.length:=by omega
   go_wp2_with fail
   refine (HG.out _).mono ?_
   rintro e w1 ⟨v1,rfl,o1,hb1⟩
   have hx1:=hb0.trans (hb1.mono hb0.size)
   have o2:=o1.mono hb0.size
   clear o1 hb1
   go_wp2_with fail
   generalize wr=wo at *
   clear hb0
   go_loopw [6,27] (fun s i wr=>∃ k:Nat,k<=xss.length∧i=.int .i64 (k:Int)∧IO wr w.heap.size s (ffl xss k)∧Below w.heap.size w wr) (fun _ i _=>xss.length - (intOf i).toNat)
   case atStart=>exact ⟨0,by omega,rfl,o2,hx1⟩
   case round =>
    clear o2 hx1
    obtain ⟨k,hk,rfl,own,hb⟩:=hrel
    have hsz:=hb.size
    by_cases hlt:k < xss.length
    ·obtain ⟨g,off,rfl,hg,hc⟩:=HA.out (by omega)
     obtain ⟨Ak,ck,e1,hI⟩:=hc k hlt
     have d1:=(hb.cell (p:=⟨g,off+k,none⟩) hg).trans e1
     have hI2:=Lib.hid (hI.below hb)
     have p1:(0:Int)<=(k:Int):=by omega
     have p3:(k:Int) < (xss.length:Int):=by omega
     have h1:=HL.out (k+1)
     have h3:(ffl xss (k+1)).length=(ffl xss k).length+(row12 xss k).length:=by rw [HT.out k hlt,List.length_append]
     have HT2:=Lib.hid (HT.out k hlt)
     have HLe:=Lib.hid (show (ffl xss k).length+(row12 xss k).length<=1000000000000 by omega)
     have HOw:=Lib.hid own
     clear e1 hI hc h1 h3 own
     go_wp2_with (refine app_II (by rfl) (.tmp 31) (.tmp 32) (by rfl) w.heap.size u6 (ffl xss k) (row12 xss k) Ak ck w.heap.size (by rfl) HOw.out (by rfl) hI2.out HLe.out hsz ?_;intro G6 c6 w6 o6 hgr6 hb6)
     go_roundw
     case rel=>exact ⟨k+1,by omega,by go_num,by rw [HT2.out];exact o6,hb.trans hb6⟩
     case measure=>simp [intOf];omega
    ·have p3:¬ (k:Int) < (xss.length:Int):=by omega
     obtain rfl:k=xss.length:=by omega
     go_wp2_with fail
     go_ret
     exact ⟨_,rfl,by rw [<- HAll.out];exact own,hb⟩
theorem map_bs (l:List (List UInt8)):(l.map bs).map (·.data.toList)=l:=by rw [List.map_map];exact List.map_id _
theorem c_join (l:List (List UInt8)) (bk cc:Nat) (W:World) (hS:Ss W W.heap.size (some ⟨bk,0,none⟩) l) (h0:0 < l.length) (hcc:l.length<=cc) (hn:l.length<=1000000) (hl:(Lib.join l [44]).length<=1000000000) :
  Calls Tryz.prog 190 #[.slice (some ⟨bk,0,none⟩) l.length cc,.string ⟨#[44]⟩] W fun e w'=>e=.returned (.string (bs (Lib.join l [44])))∧Below W.heap.size W w':=by
 obtain ⟨b',off',e1,hlt,hc⟩:=hS h0
 have hb:b'=bk∧off'=0:=by injection e1 with e2;injection e2 with e3 e4;exact ⟨e3.symm,e4.symm⟩
 obtain ⟨rfl,rfl⟩:=hb
 have hmm:(l.map bs).length=l.length:=List.length_map _
 have hcells:∀ (j:Nat) x,(l.map bs)[j]?=some x->W.cell? ⟨b',0+j,none⟩=some (.string x):=fun j x hj=>by
  have hjl:j < l.length:=by have:=(List.getElem?_eq_some_iff.1 hj).1;rwa [List.length_map] at this
  rw [hc j hjl]
  rw [List.getElem?_map,List.getElem?_eq_getElem hjl] at hj
  have hx:bs l[j]=x:=by simpa using hj
  rw [<- hx]
  simp [ZS,hjl]
 have hlen:(Lib.join ((l.map bs).map (·.data.toList)) (⟨#[44]⟩:ByteArray).data.toList).length<=140737488355328:=by
  rw [map_bs]
  exact Nat.le_trans hl (by decide)
 have K:=Tryz.strings_Join b' 0 cc (l.map bs) ⟨#[44]⟩ W hcells hlt (by rw [hmm];omega) (by rw [hmm];exact hcc) hlen
 rw [hmm,map_bs] at K
 exact K
theorem c_numbersText (xs:List Int) (A:Option Addr) (c:Nat) (w:World) (hI:Is w w.heap.size A xs) (hs:smallL xs) (hlow:lowL xs) (hV:LV w w.heap.size) :
  Calls Tryz.prog 162 #[.slice A xs.length c] w fun e w'=>e=.returned (.string (bs (rowText xs)))∧Below w.heap.size w w':=by
 by_cases h0:0 < xs.length
 ·have q0:((xs.length:Int) == 0)=false:=beq_eq_false_iff_ne.2 (by omega)
  have hn:=hs.1
  have HI:=Lib.hid hI
  have HSm:=Lib.hid hs.2
  have HLo:=Lib.hid hlow
  have HIt:=Lib.hid (fun (n:Nat) (hn:n<=1000000000) (W:World) (hb:Below w.heap.size w W)=>c_itoa n W (by omega) (hV.at hb))
  have HT:=Lib.hid (fun k (hk:k < xs.length)=>txts_take hk)
  have HAll:=Lib.hid (row_all h0)
  have HLen:=Lib.hid (fun k=>rowTo_len hs.2 k)
  have hRl:(rowText xs).length<=12 * xs.length:=by
   rw [rowText,if_neg (by omega)];exact rowTo_len hs.2 _ (Nat.le_refl _)
  have HRl:=Lib.hid hRl
  have hml:(xs.map txtN).length=xs.length:=List.length_map _
  have HJ:=Lib.hid (fun (bk cc:Nat) (W:World) (hSs:Ss W W.heap.size (some ⟨bk,0,none⟩) (xs.map txtN)) (hcc:xs.length<=cc)=>show Calls Tryz.prog 190 #[.slice (some ⟨bk,0,none⟩) xs.length cc,.string ⟨#[44]⟩] W fun e w'=>e=.returned (.string (bs (rowText xs)))∧Below W.heap.size W w' from by
   have K:=c_join (xs.map txtN) bk cc W hSs (by rw [hml];exact h0) (by rw [hml];exact hcc) (by rw [hml];exact hn) (by rw [<- HAll.out];omega)
   rwa [hml,<- HAll.out] at K)
  clear hml
  clear hI hlow hV hs hRl
  go_enter Tryz.func162,Tryz.ntmps162
  go_wp2_with fail
  go_loopw [3,11] (fun s i wr=>∃ k:Nat,k<=xs.length∧i=.int .i64 (k:Int)∧SO wr w.heap.size s ((xs.take k).map txtN)∧Below w.heap.size w wr) (fun _ i _=>xs.length - (intOf i).toNat)
  case atStart=>exact ⟨0,by omega,rfl,SO.nil _ _,Below.refl _ _⟩
  case round =>
   obtain ⟨k,hk,rfl,own,hb⟩:=hrel
   have hsz:=hb.size
   by_cases hlt:k < xs.length
   ·obtain ⟨b,off,rfl,hlb,hc⟩:=HI.out (by omega)
    have d1:=(hb.cell (p:=⟨b,off+k,none⟩) hlb).trans (hc k hlt)
    have p1:(0:Int)<=(k:Int):=by omega
    have p2:(k:Int) < (xs.length:Int):=by omega
    have hT:=Lib.hid (HT.out k hlt)
    have hl:=HLo.out k hlt
    have hu:=HSm.out k hlt
    have hln:((xs.take k).map txtN).length=k:=by rw [List.length_map,List.length_take];omega
    have HLn:=Lib.hid hln
    clear hc hln
    generalize hz:Z xs k=z at *
    by_cases hz1:z=-1
    ·have e1:(z == -1)=true:=beq_iff_eq.2 hz1
     have HV:=Lib.hid (show txtN z=[46] by rw [txtN,if_pos (by omega)])
     have HOw:=Lib.hid own
     clear hz1 own
     go_wp2_with (refine app_S (by rfl) (.tmp 17) (.tmp 18) (by rfl) w.heap.size u3 ((xs.take k).map txtN) [46] wr.heap.size (by rfl) (HOw.out.alloc _) (by rfl) (heap_alloc_new _ _) (by rw [HLn.out];omega) (by simp;omega) ?_;intro g cap w6 o6 hgr6 hb6)
     rw [HLn.out] at o6
     go_roundw
     case rel=>exact ⟨k+1,by omega,by go_num,by rw [hT.out,HV.out];exact o6,hb.trans (((Below.refl _ wr).alloc (by omega) _).trans hb6)⟩
     case measure=>simp [intOf];omega
    ·have e1:(z == -1)=false:=beq_eq_false_iff_ne.2 hz1
     have HV:=Lib.hid (show txtN z=numL z.toNat by rw [txtN,if_neg (by omega)])
     have HOw:=Lib.hid own
     have HC:=Lib.hid (show Calls Tryz.prog 56 #[.int .i64 z] wr fun e w'=>e=.returned (.string (bs (numL z.toNat)))∧Below wr.heap.size wr w' from by
      have K:=HIt.out z.toNat (by omega) wr hb
      rwa [show ((z.toNat:Nat):Int)=z by omega] at K)
     clear hz1 own
     go_wp2_with fail
     refine HC.out.mono ?_
     rintro e w5 ⟨rfl,hb5⟩
     have hs5:=hb5.size
     have o5:=HOw.out.below hb5 (Nat.le_refl _)
     have hw5:=hb.trans (hb5.mono hsz)
     go_wp2_with (refine app_S (by rfl) (.tmp 20) (.tmp 23) (by rfl) w.heap.size u3 ((xs.take k).map txtN) (numL z.toNat) w5.heap.size (by rfl) (o5.alloc _) (by rfl) (heap_alloc_new _ _) (by rw [HLn.out];omega) (by simp;omega) ?_;intro g cap w6 o6 hgr6 hb6)
     rw [HLn.out] at o6
     go_roundw
     case rel=>exact ⟨k+1,by omega,by go_num,by rw [hT.out,HV.out];exact o6,hw5.trans (((Below.refl _ w5).alloc (by omega) _).trans hb6)⟩
     case measure=>simp [intOf];omega
   ·have p2:¬ (k:Int) < (xs.length:Int):=by omega
    obtain rfl:k=xs.length:=by omega
    rw [List.take_length] at own
    obtain ⟨A5,c5,e5,hc5,hA5,hS5⟩:=own.formE
    have hml:(xs.map txtN).length=xs.length:=List.length_map _
    rw [hml] at e5 hc5
    subst e5
    rcases hA5 with ⟨-,h00⟩ | ⟨g,rfl⟩
    ·omega
    ·have HC:=Lib.hid (HJ.out g c5 wr hS5 hc5)
     clear own hS5 hml
     go_wp2_with fail
     refine HC.out.mono ?_
     rintro e w5 ⟨rfl,hb5⟩
     go_wp2_with fail
     go_ret
     exact ⟨rfl,hb.trans (hb5.mono hsz)⟩
 ·have q1:xs.length=0:=by omega
  have q0:((xs.length:Int) == 0)=true:=beq_iff_eq.2 (by omega)
  have HV:=Lib.hid (show rowText xs=wNone from if_pos q1)
  clear q1
  go_enter Tryz.func162,Tryz.ntmps162
  go_wp2_with fail
  go_ret
  exact ⟨by rw [HV.out];rfl,Below.refl _ _⟩
theorem c_numberText (x:Int) (w:World) (h1:-1<=x) (h2:x<=1000000000) (hV:LV w w.heap.size) :
  Calls Tryz.prog 169 #[.int .i64 x] w fun e w'=>e=.returned (.string (bs (numOr x)))∧Below w.heap.size w w':=by
 by_cases hz:x=-1
 ·have e1:(x == -1)=true:=beq_iff_eq.2 hz
  have HV:=Lib.hid (show numOr x=wNone from if_pos (by omega))
  clear hz
  go_enter Tryz.func169,Tryz.ntmps169
  go_wp2_with fail
  go_ret
  exact ⟨by rw [HV.out];rfl,Below.refl _ _⟩
 ·have e1:(x == -1)=false:=beq_eq_false_iff_ne.2 hz
  have HV:=Lib.hid (show numOr x=numL x.toNat from if_neg (by omega))
  have HC:=Lib.hid (show Calls Tryz.prog 56 #[.int .i64 x] w fun e w'=>e=.returned (.string (bs (numL x.toNat)))∧Below w.heap.size w w' from by
   have K:=c_itoa x.toNat w (by omega) hV
   rwa [show ((x.toNat:Nat):Int)=x by omega] at K)
  clear hz
  go_enter Tryz.func169,Tryz.ntmps169
  go_wp2_with fail
  refine HC.out.mono ?_
  rintro e w5 ⟨rfl,hb5⟩
  go_wp2_with fail
  go_ret
  exact ⟨by rw [HV.out];rfl,hb5⟩
end
section
attribute [local go_sem ↓] Go.wp_at_zero Go.wp_at_succ
theorem numOr_nn {x:Int} (h:0<=x):numOr x=numL x.toNat:=by rw [numOr,if_neg (by omega)]
def sumQ (L:List (Int×Int)) (r:Int):List UInt8:=if 0<=r∧r<=3 then numOr (sumV L (orderR L r)) else wNone
def AnsP (t:List UInt8) (w:World) (e:Ending) (w':World):Prop:=e=.returned (.string (bs t))∧Below w.heap.size w w'
theorem c_qMany (D:KV) (vn vp:Value) (w:World) (hK:Ks w w.heap.size vn vp D) (hok:deskOk D=true) (hV:LV w w.heap.size) :
  Calls Tryz.prog 130 #[.agg #[vn,vp]] w (AnsP (numL D.now.length) w):=by
 obtain ⟨⟨An,cn,rfl,hcn,hN⟩,Ap,cp,rfl,-,-⟩:=hK
 have hok1:=(deskOk_parts hok).2.1
 have hlen:=cOk_len hok1
 obtain ⟨w0,hw0,hz0,hb0,-,hS⟩:=one_box w (.slice An D.now.length cn) (.slice Ap D.past.length cp)
 obtain ⟨c0,c1⟩:=hS _ (Below.refl _ w0)
 have HC:=Lib.hid (c_itoa D.now.length w0 (by omega) (hV.at hb0))
 clear hS hz0 hN hV
 go_enter Tryz.func130,Tryz.ntmps130
 go_wp2_with fail
 refine HC.out.mono ?_
 rintro e w1 ⟨rfl,hb1⟩
 go_wp2_with fail
 go_ret
 exact ⟨rfl,hb0.trans (hb1.mono hb0.size)⟩
theorem c_qWaits (D:KV) (vn vp:Value) (w:World) (hK:Ks w w.heap.size vn vp D) (hok:deskOk D=true) (hV:LV w w.heap.size) :
  Calls Tryz.prog 131 #[.agg #[vn,vp]] w (AnsP (rowText (waits D.now)) w):=by
 obtain ⟨⟨An,cn,rfl,hcn,hN⟩,Ap,cp,rfl,-,-⟩:=hK
 have hok1:=(deskOk_parts hok).2.1
 have hlen:=cOk_len hok1
 obtain ⟨w0,hw0,hz0,hb0,-,hS⟩:=one_box w (.slice An D.now.length cn) (.slice Ap D.past.length cp)
 obtain ⟨c0,c1⟩:=hS _ (Below.refl _ w0)
 have HC:=Lib.hid (c_iWaitsOf D.now An cn w0 ((hN.below hb0).more hb0.size) (by omega))
 have HT:=Lib.hid (fun (A:Option Addr) (c:Nat) (W:World) (hI:Is W W.heap.size A (waits D.now)) (hb:Below w.heap.size w W)=>c_numbersText (waits D.now) A c W hI (small_waits hok1) (low_waits hok1) (hV.at hb))
 clear hS hz0 hN hV
 go_enter Tryz.func131,Tryz.ntmps131
 go_wp2_with fail
 refine HC.out.mono ?_
 rintro e w1 ⟨v,rfl,o1,hb1⟩
 obtain ⟨A1,a1,rfl,-,-,hI⟩:=o1.form
 have hx:=hb0.trans (hb1.mono hb0.size)
 have H2:=Lib.hid (HT.out A1 a1 w1 hI hx)
 clear c0 c1 hw0 o1 hI
 go_wp2_with fail
 refine H2.out.mono ?_
 rintro e w2 ⟨rfl,hb2⟩
 go_wp2_with fail
 go_ret
 exact ⟨rfl,hx.trans (hb2.mono hx.size)⟩
theorem c_qLeaves (D:KV) (vn vp:Value) (w:World) (hK:Ks w w.heap.size vn vp D) (hok:deskOk D=true) (hV:LV w w.heap.size) :
  Calls Tryz.prog 132 #[.agg #[vn,vp]] w (AnsP (rowText (leaves D.now)) w):=by
 obtain ⟨⟨An,cn,rfl,hcn,hN⟩,Ap,cp,rfl,-,-⟩:=hK
 have hok1:=(deskOk_parts hok).2.1
 have hlen:=cOk_len hok1
 obtain ⟨w0,hw0,hz0,hb0,-,hS⟩:=one_box w (.slice An D.now.length cn) (.slice Ap D.past.length cp)
 obtain ⟨c0,c1⟩:=hS _ (Below.refl _ w0)
 have HC:=Lib.hid (c_iLeavesOf D.now An cn w0 ((hN.below hb0).more hb0.size) (by omega))
 have HT:=Lib.hid (fun (A:Option Addr) (c:Nat) (W:World) (hI:Is W W.heap.size A (leaves D.now)) (hb:Below w.heap.size w W)=>c_numbersText (leaves D.now) A c W hI (small_leaves hok1) (low_leaves hok1) (hV.at hb))
 clear hS hz0 hN hV
 go_enter Tryz.func132,Tryz.ntmps132
 go_wp2_with fail
 refine HC.out.mono ?_
 rintro e w1 ⟨v,rfl,o1,hb1⟩
 obtain ⟨A1,a1,rfl,-,-,hI⟩:=o1.form
 have hx:=hb0.trans (hb1.mono hb0.size)
 have H2:=Lib.hid (HT.out A1 a1 w1 hI hx)
 clear c0 c1 hw0 o1 hI
 go_wp2_with fail
 refine H2.out.mono ?_
 rintro e w2 ⟨rfl,hb2⟩
 go_wp2_with fail
 go_ret
 exact ⟨rfl,hx.trans (hb2.mono hx.size)⟩
theorem c_qLast (D:KV) (vn vp:Value) (w:World) (hK:Ks w w.heap.size vn vp D) (hok:deskOk D=true) (hV:LV w w.heap.size) :
  Calls Tryz.prog 133 #[.agg #[vn,vp]] w (AnsP (rowText (lastR D.now)) w):=by
 obtain ⟨⟨An,cn,rfl,hcn,hN⟩,Ap,cp,rfl,-,-⟩:=hK
 have hok1:=(deskOk_parts hok).2.1
 have hlen:=cOk_len hok1
 obtain ⟨w0,hw0,hz0,hb0,-,hS⟩:=one_box w (.slice An D.now.length cn) (.slice Ap D.past.length cp)
 obtain ⟨c0,c1⟩:=hS _ (Below.refl _ w0)
 have HC:=Lib.hid (c_iLastTimes D.now An cn w0 ((hN.below hb0).more hb0.size) hcn (by omega))
 have HT:=Lib.hid (fun (A:Option Addr) (c:Nat) (W:World) (hI:Is W W.heap.size A (lastR D.now)) (hb:Below w.heap.size w W)=>c_numbersText (lastR D.now) A c W hI (small_last hok1) (low_last hok1) (hV.at hb))
 clear hS hz0 hN hV
 go_enter Tryz.func133,Tryz.ntmps133
 go_wp2_with fail
 refine HC.out.mono ?_
 rintro e w1 ⟨v,rfl,o1,hb1⟩
 obtain ⟨A1,a1,rfl,-,-,hI⟩:=o1.form
 have hx:=hb0.trans (hb1.mono hb0.size)
 have H2:=Lib.hid (HT.out A1 a1 w1 hI hx)
 clear c0 c1 hw0 o1 hI
 go_wp2_with fail
 refine H2.out.mono ?_
 rintro e w2 ⟨rfl,hb2⟩
 go_wp2_with fail
 go_ret
 exact ⟨rfl,hx.trans (hb2.mono hx.size)⟩
theorem c_qRounds (D:KV) (vn vp:Value) (w:World) (hK:Ks w w.heap.size vn vp D) (hok:deskOk D=true) (hV:LV w w.heap.size) :
  Calls Tryz.prog 134 #[.agg #[vn,vp]] w (AnsP (rowText (roundR D.now)) w):=by
 obtain ⟨⟨An,cn,rfl,hcn,hN⟩,Ap,cp,rfl,-,-⟩:=hK
 have hok1:=(deskOk_parts hok).2.1
 have hlen:=cOk_len hok1
 obtain ⟨w0,hw0,hz0,hb0,-,hS⟩:=one_box w (.slice An D.now.length cn) (.slice Ap D.past.length cp)
 obtain ⟨c0,c1⟩:=hS _ (Below.refl _ w0)
 have HC:=Lib.hid (c_iRoundOrder D.now An cn w0 ((hN.below hb0).more hb0.size) hcn (by omega))
 have HT:=Lib.hid (fun (A:Option Addr) (c:Nat) (W:World) (hI:Is W W.heap.size A (roundR D.now)) (hb:Below w.heap.size w W)=>c_numbersText (roundR D.now) A c W hI (small_rounds hok1) (low_rounds hok1) (hV.at hb))
 clear hS hz0 hN hV
 go_enter Tryz.func134,Tryz.ntmps134
 go_wp2_with fail
 refine HC.out.mono ?_
 rintro e w1 ⟨v,rfl,o1,hb1⟩
 obtain ⟨A1,a1,rfl,-,-,hI⟩:=o1.form
 have hx:=hb0.trans (hb1.mono hb0.size)
 have H2:=Lib.hid (HT.out A1 a1 w1 hI hx)
 clear c0 c1 hw0 o1 hI
 go_wp2_with fail
 refine H2.out.mono ?_
 rintro e w2 ⟨rfl,hb2⟩
 go_wp2_with fail
 go_ret
 exact ⟨rfl,hx.trans (hb2.mono hx.size)⟩
theorem c_qOrder (D:KV) (vn vp:Value) (r:Int) (w:World) (hK:Ks w w.heap.size vn vp D) (hok:deskOk D=true) (hV:LV w w.heap.size) :
  Calls Tryz.prog 140 #[.agg #[vn,vp],.int .i64 r] w (AnsP (rowText (orderR D.now r)) w):=by
 obtain ⟨⟨An,cn,rfl,hcn,hN⟩,Ap,cp,rfl,-,-⟩:=hK
 have hok1:=(deskOk_parts hok).2.1
 have hlen:=cOk_len hok1
 obtain ⟨w0,hw0,hz0,hb0,-,hS⟩:=one_box w (.slice An D.now.length cn) (.slice Ap D.past.length cp)
 obtain ⟨c0,c1⟩:=hS _ (Below.refl _ w0)
 have HC:=Lib.hid (c_iOrderBy D.now An cn r w0 ((hN.below hb0).more hb0.size) hcn (by omega))
 have HT:=Lib.hid (fun (A:Option Addr) (c:Nat) (W:World) (hI:Is W W.heap.size A (orderR D.now r)) (hb:Below w.heap.size w W)=>c_numbersText (orderR D.now r) A c W hI (small_order _ _) (low_order _ _) (hV.at hb))
 clear hS hz0 hN hV
 go_enter Tryz.func140,Tryz.ntmps140
 go_wp2_with fail
 refine HC.out.mono ?_
 rintro e w1 ⟨v,rfl,o1,hb1⟩
 obtain ⟨A1,a1,rfl,-,-,hI⟩:=o1.form
 have hx:=hb0.trans (hb1.mono hb0.size)
 have H2:=Lib.hid (HT.out A1 a1 w1 hI hx)
 clear c0 c1 hw0 o1 hI
 go_wp2_with fail
 refine H2.out.mono ?_
 rintro e w2 ⟨rfl,hb2⟩
 go_wp2_with fail
 go_ret
 exact ⟨rfl,hx.trans (hb2.mono hx.size)⟩
theorem c_qNeed (D:KV) (vn vp:Value) (w:World) (hK:Ks w w.heap.size vn vp D) (hok:deskOk D=true) (hV:LV w w.heap.size) :
  Calls Tryz.prog 136 #[.agg #[vn,vp]] w (AnsP (numL (needOf D.now).toNat) w):=by
 obtain ⟨⟨An,cn,rfl,hcn,hN⟩,Ap,cp,rfl,-,-⟩:=hK
 have hok1:=(deskOk_parts hok).2.1
 have hlen:=cOk_len hok1
 obtain ⟨w0,hw0,hz0,hb0,-,hS⟩:=one_box w (.slice An D.now.length cn) (.slice Ap D.past.length cp)
 obtain ⟨c0,c1⟩:=hS _ (Below.refl _ w0)
 have HC:=Lib.hid (c_iNeedOf D.now An cn w0 ((hN.below hb0).more hb0.size) (by omega))
 have HT:=Lib.hid (fun (W:World) (hb:Below w.heap.size w W)=>c_numberText (needOf D.now) W (by have:=need_small hok1;omega) (by have:=need_small hok1;omega) (hV.at hb))
 have HN:=Lib.hid (show numOr (needOf D.now)=numL (needOf D.now).toNat from by rw [numOr_nn (need_small hok1).1])
 clear hS hz0 hN hV
 go_enter Tryz.func136,Tryz.ntmps136
 go_wp2_with fail
 refine HC.out.mono ?_
 rintro e w1 ⟨rfl,hb1⟩
 have hx:=hb0.trans (hb1.mono hb0.size)
 have H2:=Lib.hid (HT.out w1 hx)
 clear c0 c1 hw0
 go_wp2_with fail
 refine H2.out.mono ?_
 rintro e w2 ⟨rfl,hb2⟩
 go_wp2_with fail
 go_ret
 exact ⟨by rw [<- HN.out];rfl,hx.trans (hb2.mono hx.size)⟩
theorem c_qLeast (D:KV) (vn vp:Value) (w:World) (hK:Ks w w.heap.size vn vp D) (hok:deskOk D=true) (hV:LV w w.heap.size) :
  Calls Tryz.prog 137 #[.agg #[vn,vp]] w (AnsP (numL (leastV D.now).toNat) w):=by
 obtain ⟨⟨An,cn,rfl,hcn,hN⟩,Ap,cp,rfl,-,-⟩:=hK
 have hok1:=(deskOk_parts hok).2.1
 have hlen:=cOk_len hok1
 obtain ⟨w0,hw0,hz0,hb0,-,hS⟩:=one_box w (.slice An D.now.length cn) (.slice Ap D.past.length cp)
 obtain ⟨c0,c1⟩:=hS _ (Below.refl _ w0)
 have HC:=Lib.hid (c_iLeastSum D.now An cn w0 ((hN.below hb0).more hb0.size) hcn (by omega))
 have HT:=Lib.hid (fun (W:World) (hb:Below w.heap.size w W)=>c_numberText (leastV D.now) W (by have:=(least_sum hok1).2;omega) (by have:=(least_sum hok1).2;omega) (hV.at hb))
 have HN:=Lib.hid (show numOr (leastV D.now)=numL (leastV D.now).toNat from by rw [numOr_nn (least_sum hok1).2.1])
 clear hS hz0 hN hV
 go_enter Tryz.func137,Tryz.ntmps137
 go_wp2_with fail
 refine HC.out.mono ?_
 rintro e w1 ⟨rfl,hb1⟩
 have hx:=hb0.trans (hb1.mono hb0.size)
 have H2:=Lib.hid (HT.out w1 hx)
 clear c0 c1 hw0
 go_wp2_with fail
 refine H2.out.mono ?_
 rintro e w2 ⟨rfl,hb2⟩
 go_wp2_with fail
 go_ret
 exact ⟨by rw [<- HN.out];rfl,hx.trans (hb2.mono hx.size)⟩
theorem c_qIdle (D:KV) (vn vp:Value) (w:World) (hK:Ks w w.heap.size vn vp D) (hok:deskOk D=true) (hV:LV w w.heap.size) :
  Calls Tryz.prog 138 #[.agg #[vn,vp]] w (AnsP (numL (idleV D.now).toNat) w):=by
 obtain ⟨⟨An,cn,rfl,hcn,hN⟩,Ap,cp,rfl,-,-⟩:=hK
 have hok1:=(deskOk_parts hok).2.1
 have hlen:=cOk_len hok1
 obtain ⟨w0,hw0,hz0,hb0,-,hS⟩:=one_box w (.slice An D.now.length cn) (.slice Ap D.past.length cp)
 obtain ⟨c0,c1⟩:=hS _ (Below.refl _ w0)
 have HC:=Lib.hid (c_iIdleUntil D.now An cn w0 ((hN.below hb0).more hb0.size) (by omega))
 have HT:=Lib.hid (fun (W:World) (hb:Below w.heap.size w W)=>c_numberText (idleV D.now) W (by have:=idle_small hok1;omega) (by have:=idle_small hok1;omega) (hV.at hb))
 have HN:=Lib.hid (show numOr (idleV D.now)=numL (idleV D.now).toNat from by rw [numOr_nn (idle_small hok1).1])
 clear hS hz0 hN hV
 go_enter Tryz.func138,Tryz.ntmps138
 go_wp2_with fail
 refine HC.out.mono ?_
 rintro e w1 ⟨rfl,hb1⟩
 have hx:=hb0.trans (hb1.mono hb0.size)
 have H2:=Lib.hid (HT.out w1 hx)
 clear c0 c1 hw0
 go_wp2_with fail
 refine H2.out.mono ?_
 rintro e w2 ⟨rfl,hb2⟩
 go_wp2_with fail
 go_ret
 exact ⟨by rw [<- HN.out];rfl,hx.trans (hb2.mono hx.size)⟩
theorem c_qWork (D:KV) (vn vp:Value) (r:Int) (w:World) (hK:Ks w w.heap.size vn vp D) (hok:deskOk D=true) (hV:LV w w.heap.size) :
  Calls Tryz.prog 139 #[.agg #[vn,vp],.int .i64 r] w (AnsP (numOr (workV D.now r)) w):=by
 obtain ⟨⟨An,cn,rfl,hcn,hN⟩,Ap,cp,rfl,-,-⟩:=hK
 have hok1:=(deskOk_parts hok).2.1
 have hlen:=cOk_len hok1
 obtain ⟨w0,hw0,hz0,hb0,-,hS⟩:=one_box w (.slice An D.now.length cn) (.slice Ap D.past.length cp)
 obtain ⟨c0,c1⟩:=hS _ (Below.refl _ w0)
 have HC:=Lib.hid (c_iWorkAt D.now An cn r w0 ((hN.below hb0).more hb0.size) (by omega))
 have HT:=Lib.hid (fun (W:World) (hb:Below w.heap.size w W)=>c_numberText (workV D.now r) W (work_low _ _) (work_small _ _) (hV.at hb))
 clear hS hz0 hN hV
 go_enter Tryz.func139,Tryz.ntmps139
 go_wp2_with fail
 refine HC.out.mono ?_
 rintro e w1 ⟨rfl,hb1⟩
 have hx:=hb0.trans (hb1.mono hb0.size)
 have H2:=Lib.hid (HT.out w1 hx)
 clear c0 c1 hw0
 go_wp2_with fail
 refine H2.out.mono ?_
 rintro e w2 ⟨rfl,hb2⟩
 go_wp2_with fail
 go_ret
 exact ⟨rfl,hx.trans (hb2.mono hx.size)⟩
theorem c_qBeside (D:KV) (vn vp:Value) (r:Int) (w:World) (hK:Ks w w.heap.size vn vp D) (hok:deskOk D=true) (hV:LV w w.heap.size) :
  Calls Tryz.prog 142 #[.agg #[vn,vp],.int .i64 r] w (AnsP (numOr (waitSumV D.now r)) w):=by
 obtain ⟨⟨An,cn,rfl,hcn,hN⟩,Ap,cp,rfl,-,-⟩:=hK
 have hok1:=(deskOk_parts hok).2.1
 have hlen:=cOk_len hok1
 obtain ⟨w0,hw0,hz0,hb0,-,hS⟩:=one_box w (.slice An D.now.length cn) (.slice Ap D.past.length cp)
 obtain ⟨c0,c1⟩:=hS _ (Below.refl _ w0)
 have HC:=Lib.hid (c_iWaitSum D.now An cn r w0 ((hN.below hb0).more hb0.size) hcn (by omega))
 have HT:=Lib.hid (fun (W:World) (hb:Below w.heap.size w W)=>c_numberText (waitSumV D.now r) W (waitsum_low _ _) (waitsum_small _ _) (hV.at hb))
 clear hS hz0 hN hV
 go_enter Tryz.func142,Tryz.ntmps142
 go_wp2_with fail
 refine HC.out.mono ?_
 rintro e w1 ⟨rfl,hb1⟩
 have hx:=hb0.trans (hb1.mono hb0.size)
 have H2:=Lib.hid (HT.out w1 hx)
 clear c0 c1 hw0
 go_wp2_with fail
 refine H2.out.mono ?_
 rintro e w2 ⟨rfl,hb2⟩
 go_wp2_with fail
 go_ret
 exact ⟨rfl,hx.trans (hb2.mono hx.size)⟩
theorem c_qBusy (D:KV) (vn vp:Value) (w:World) (hK:Ks w w.heap.size vn vp D) (hok:deskOk D=true) (hV:LV w w.heap.size) :
  Calls Tryz.prog 135 #[.agg #[vn,vp]] w (AnsP (rowText (rowB D.now)) w):=by
 obtain ⟨⟨An,cn,rfl,hcn,hN⟩,Ap,cp,rfl,-,-⟩:=hK
 have hok1:=(deskOk_parts hok).2.1
 have hlen:=cOk_len hok1
 obtain ⟨w0,hw0,hz0,hb0,-,hS⟩:=one_box w (.slice An D.now.length cn) (.slice Ap D.past.length cp)
 obtain ⟨c0,c1⟩:=hS _ (Below.refl _ w0)
 have hbl:=busyP_len D.now
 have HC:=Lib.hid (c_iBusyOf D.now An cn w0 ((hN.below hb0).more hb0.size) (by omega))
 have hfl:(rows (busyP D.now)).flatten.length<=1000000:=(small_busy D.now).1
 have HCc:=Lib.hid (fun (A:Option Addr) (c:Nat) (W:World) (hI:Iss W W.heap.size A (rows (busyP D.now)))=>c_concat (rows (busyP D.now)) A c W hI (by rw [rows_len];omega) hfl)
 have HT:=Lib.hid (fun (A:Option Addr) (c:Nat) (W:World) (hI:Is W W.heap.size A (rowB D.now)) (hb:Below w.heap.size w W)=>c_numbersText (rowB D.now) A c W hI (small_busy _) (low_busy _) (hV.at hb))
 clear hS hz0 hN hV hfl
 go_enter Tryz.func135,Tryz.ntmps135
 go_wp2_with fail
 refine HC.out.mono ?_
 rintro e w1 ⟨v,rfl,⟨vs,o1⟩,hb1⟩
 obtain ⟨A1,a1,rfl,hI⟩:=o1.iss
 have hx:=hb0.trans (hb1.mono hb0.size)
 have H2:=Lib.hid (HCc.out A1 a1 w1 hI)
 clear c0 c1 hw0 o1 hI
 go_wp2_with fail
 refine H2.out.mono ?_
 rintro e w2 ⟨v,rfl,o2,hb2⟩
 have o2:IO w2 w1.heap.size v (rowB D.now):=o2
 obtain ⟨A2,a2,rfl,-,-,hI⟩:=o2.form
 have hx2:=hx.trans (hb2.mono hx.size)
 have H3:=Lib.hid (HT.out A2 a2 w2 hI hx2)
 clear o2 hI
 go_wp2_with fail
 refine H3.out.mono ?_
 rintro e w3 ⟨rfl,hb3⟩
 go_wp2_with fail
 go_ret
 exact ⟨rfl,hx2.trans (hb3.mono hx2.size)⟩
theorem c_qSum (D:KV) (vn vp:Value) (r:Int) (w:World) (hK:Ks w w.heap.size vn vp D) (hok:deskOk D=true) (hV:LV w w.heap.size) :
  Calls Tryz.prog 141 #[.agg #[vn,vp],.int .i64 r] w (AnsP (sumQ D.now r) w):=by
 obtain ⟨⟨An,cn,rfl,hcn,hN⟩,Ap,cp,rfl,-,-⟩:=hK
 have hok1:=(deskOk_parts hok).2.1
 have hlen:=cOk_len hok1
 obtain ⟨w0,hw0,hz0,hb0,-,hS⟩:=one_box w (.slice An D.now.length cn) (.slice Ap D.past.length cp)
 obtain ⟨c0,c1⟩:=hS _ (Below.refl _ w0)
 by_cases hr:0<=r∧r<=3
 ·have HD:=Lib.hid (show decide ((0:Int)<=r∧r<=3)=true from decide_eq_true hr)
  have HV:=Lib.hid (show sumQ D.now r=numOr (sumV D.now (orderR D.now r)) from if_pos hr)
  have hol:=(small_order D.now r).1
  have HO:=Lib.hid (fun (W:World) (hb:Below w.heap.size w W)=>c_iOrderBy D.now An cn r W ((hN.below hb).more hb.size) hcn (by omega))
  have HSm:=Lib.hid (fun (O:Option Addr) (d:Nat) (W:World) (hb:Below w.heap.size w W) (hO:Is W W.heap.size O (orderR D.now r))=>c_iSumOf D.now (orderR D.now r) An O cn d W ((hN.below hb).more hb.size) hO (by omega) (by omega))
  have HT:=Lib.hid (fun (W:World) (hb:Below w.heap.size w W)=>c_numberText (sumV D.now (orderR D.now r)) W (sum_low _ _) (sum_small _ _) (hV.at hb))
  have HS:=Lib.hid (fun (W:World) (hb:Below w0.heap.size w0 W)=>(hS W (hb.mono (by omega))).1)
  have HB0:=Lib.hid (fun (W:World) (h:Below w0.heap.size w0 W)=>hb0.trans (h.mono hb0.size))
  have hd0:Below w0.heap.size w0 w0.drew:=(Below.refl _ w0).drew
  clear hS hz0 hN hV hol hr
  go_enter Tryz.func141,Tryz.ntmps141
  go_wp2_with fail
  refine (c_within _ _ _ _).mono ?_
  rintro e w' ⟨rfl,rfl⟩
  rw [HD.out]
  go_wp2_with fail
  clear hw0
  go_region_held3 (fun W=>W.cell? ⟨w.heap.size,0,none⟩=some (.slice An D.now.length cn))
   (first
     | exact HS.out _ hx7
     | exact HS.out _ hx6
     | exact HS.out _ hx5
     | go_keep)
   (first
     | (go_at_call 174;refine (HO.out w0.drew (HB0.out _ hd0)).mono ?_;rintro e w5 ⟨v,rfl,o5,hb5⟩;obtain ⟨A5,a5,rfl,-,-,hI5⟩:=o5.form;have hx5:Below w0.heap.size w0 w5:=hd0.trans hb5)
     | (go_at_call 175;refine (HSm.out A5 a5 w5 (HB0.out _ hx5) hI5).mono ?_;rintro e w6 ⟨rfl,hb6⟩;have hx6:Below w0.heap.size w0 w6:=hx5.trans (hb6.mono hx5.size))
     | (go_at_call 169;refine (HT.out w6 (HB0.out _ hx6)).mono ?_;rintro e w7 ⟨rfl,hb7⟩;have hx7:Below w0.heap.size w0 w7:=hx6.trans (hb7.mono hx6.size))
     | fail)
  have HB:=Lib.hid (HB0.out _ hx7)
  clear hx7 hx6 hx5 hI5 o5 hd0 c0 c1
  go_wp2_with fail
  go_ret
  exact ⟨by rw [HV.out];rfl,HB.out⟩
 ·have HD:=Lib.hid (show decide ((0:Int)<=r∧r<=3)=false from decide_eq_false hr)
  have HV:=Lib.hid (show sumQ D.now r=wNone from if_neg hr)
  clear hS hz0 hN hV hr
  go_enter Tryz.func141,Tryz.ntmps141
  go_wp2_with fail
  refine (c_within _ _ _ _).mono ?_
  rintro e w' ⟨rfl,rfl⟩
  rw [HD.out]
  go_wp2_with fail
  go_ret
  exact ⟨by rw [HV.out];rfl,hb0⟩
end
end Go.Proofs.YthpccmkagikhjaaGreatDoor

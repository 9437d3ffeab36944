import Derived.Test.YthpccmkagikhjaaGreatDoorQReadJournal10
import Derived.Test.YthpccmkagikhjaaGreatDoorQReadJournal11
import Derived.Test.YthpccmkagikhjaaGreatDoorQReadJournal21
import Derived.Lib.AppendZeros
namespace Go.Proofs.YthpccmkagikhjaaGreatDoor
set_option linter.unusedVariables false
open Go.RowKit
set_option maxRecDepth 8000
set_option maxHeartbeats 16000000
section
attribute [local go_sem ↓] Go.wp_at_zero Go.wp_at_succ
theorem Z_vals (r:List (List UInt8)) (k:Nat):Z (valsN r) k=(valN (r.getD k []):Int):=by
 by_cases h:k < r.length
 ·simp [Z,valsN,h]
 ·simp [Z,valsN,h,valN]
theorem names_parts {r:List (List UInt8)} {n:Nat} (h:namesOk r n=true):r.length=n∧r.all dig2=true:=by simpa [namesOk] using h
theorem names_no {r:List (List UInt8)} {n:Nat} (h:namesOk r n=false):¬ (r.length=n∧r.all dig2=true):=by
 intro h2
 have:namesOk r n=true:=by simp [namesOk,h2.1,h2.2]
 rw [h] at this;cases this
theorem forms_ix (f:Fin 5) (w:World):(Instr.index 125 (.agg #[.string ⟨#[99,111,109,101]⟩,.int .i64 2,.string ⟨#[103,111]⟩,.int .i64 0,.string ⟨#[110,101,101,100]⟩,.int .i64 1,.string ⟨#[108,97,116,101,114]⟩,.int .i64 1,.string ⟨#[98,97,99,107]⟩,.int .i64 0]) (.int .i64 ((f.val:Nat):Int))).run Tryz.prog w=.ok (.agg #[.string (bs (wordJ f.val)),.int .i64 ((numJ f.val:Nat):Int)]) w:=by
 obtain ⟨k,h⟩:=f
 obtain rfl | rfl | rfl | rfl | rfl:k=0∨k=1∨k=2∨k=3∨k=4:=by omega
 all_goals kernel_rfl
theorem num_le (f:Fin 5):numJ f.val<=2:=by revert f;decide
attribute [local go_sem ↓] forms_ix
theorem c_iReadDeed (l:List UInt8) (hs:l.length<=100000000) (w:World) (hV:LV w w.heap.size) :
  Calls Tryz.prog 44 #[.string (bs l)] w fun e w'=>e=.returned (readV (readD l))∧Below w.heap.size w w':=by
 obtain ⟨x,r,hcut⟩:=cut_cons 32 l
 obtain ⟨n1,hn1⟩:∃ n1,(cutL 32 l).length=n1:=⟨_,rfl⟩
 have hrl:n1=r.length+1:=by rw [<- hn1,hcut];rfl
 have hrx:∀ k,k < r.length->(ZS r k).length<=100000000:=fun k hk=>by
  have h1:ZS r k ∈ cutL 32 l:=by rw [hcut,ZS_get hk];exact List.mem_cons_of_mem _ (List.getElem_mem hk)
  have:=cut_len _ h1;omega
 have hr1:r.length<=1000000000:=by
  have h2:(cutL 32 l).length<=l.length+1:=by have:=cutS_len 32 l;simp [cutL];omega
  omega
 obtain ⟨w0,hw0⟩:∃ w0,w.alloc (.cells #[.int .i64 0,.int .i64 0,.int .i64 0] 39)=w0:=⟨_,rfl⟩
 have hb0:Below w.heap.size w w0:=by rw [<- hw0];exact (Below.refl _ w).alloc (Nat.le_refl _) _
 have bR:w0.heap[w.heap.size]?=some (.cells #[.int .i64 0,.int .i64 0,.int .i64 0] 39 (0,0)):=by rw [<- hw0];exact heap_alloc_new _ _
 have hz0:w.heap.size < w0.heap.size:=by rw [<- hw0];simp
 have HSp:=Lib.hid (show Calls Tryz.prog 97 #[.string (bs l),.string ⟨#[32]⟩] w0 fun e w'=>e=.returned (.slice (some ⟨w0.heap.size,0,none⟩) n1 n1)∧Ss w' w'.heap.size (some ⟨w0.heap.size,0,none⟩) (x::r)∧Below w0.heap.size w0 w' from by
  have K:=c_split l hs w0 (hV.at hb0)
  rwa [hn1,hcut] at K)
 have HCut:=Lib.hid hcut
 have HV0:=Lib.hid (hV.at hb0)
 clear hcut hn1 hV
 by_cases h1:n1=1
 ·subst h1
  obtain rfl:r=[]:=List.eq_nil_of_length_eq_zero (by omega)
  clear hrl hr1
  go_enter Tryz.func44,Tryz.ntmps44
  go_wp2_with fail
  refine HSp.out.mono ?_
  rintro e w1 ⟨rfl,hS,hb1⟩
  obtain ⟨b',off',e1,hlw,hcw⟩:=hS (by simp)
  cases e1
  have HW0:=Lib.hid (show w1.cell? ⟨w0.heap.size,0,none⟩=some (.string (bs x)) from hcw 0 (by simp))
  have HNum:=Lib.hid (fun (n:Nat) (W:ByteArray) (W':World) (hb:Below w1.heap.size w1 W')=>show Calls Tryz.prog 99 #[.agg #[.string W,.int .i64 (n:Int)],.slice (some ⟨w0.heap.size,0,none⟩) 0 0] W' fun e w'=>(∃ v,e=.returned (.tuple #[v,.bool (namesOk [] n)])∧(namesOk [] n=true->IO w' W'.heap.size v (valsN [])))∧Below W'.heap.size W' w' from
   c_readNumbers [] W n (some ⟨w0.heap.size,0,none⟩) 0 W' (fun h=>by simp at h) (by simp) (fun k hk=>by simp at hk) (HV0.out.at (hb1.trans (hb.mono hb1.size))))
  clear hcw hS hw0
  have hz1:=hb1.size
  obtain ⟨r,hr⟩:∃ r:List (List UInt8),r=[]:=⟨_,rfl⟩
  rw [<- hr] at HNum HCut
  clear hr
  go_wp2_with fail
  refine (c_deedForms _).mono ?_
  rintro e w2 ⟨rfl,hb2⟩
  have hz2:=hb2.size
  go_wp2_with fail
  go_loopw [12] (fun i wr=>∃ k:Nat,k<=5∧i=.int .i64 (k:Int)∧Hid (∀ j,j < k->x≠wordJ j)∧Below w2.heap.size w2 wr) (fun i _=>5 - (intOf i).toNat)
  case atStart=>exact ⟨0,by omega,rfl,Lib.hid (fun j hj=>by omega),Below.refl _ _⟩
  case round =>
   obtain ⟨k,hk,rfl,HN,hb⟩:=hrel
   have hbx:Below w1.heap.size w1 wr:=hb2.trans (hb.mono hz2)
   by_cases h5:k < 5
   ·obtain ⟨f,rfl⟩:∃ f:Fin 5,k=f.val:=⟨⟨k,h5⟩,rfl⟩
    have q5:((f.val:Nat):Int) < 5:=by omega
    have q6:(0:Int)<=((f.val:Nat):Int):=by omega
    clear h5 hk
    ·have HNk:=Lib.hid (fun (W':World) (hb:Below w1.heap.size w1 W')=>show Calls Tryz.prog 99 #[.agg #[.string (bs (wordJ f.val)),.int .i64 (numJ f.val:Int)],.slice (some ⟨w0.heap.size,0,none⟩) 0 0] W' fun e w'=>(∃ v,e=.returned (.tuple #[v,.bool (namesOk r (numJ f.val))])∧(namesOk r (numJ f.val)=true->IO w' W'.heap.size v (valsN r)))∧Below W'.heap.size W' w' from HNum.out (numJ f.val) (bs (wordJ f.val)) W' hb)
     by_cases hx:x=wordJ f.val
     ·have hne:((bs x).toList == (bs (wordJ f.val)).toList)=true:=by rw [hx];simp
      have HC:=Lib.hid (show cutL 32 l=wordJ f.val::r by rw [HCut.out,hx])
      clear hx
      go_wp2_with fail
      obtain ⟨w5,hw5⟩:∃ w5,wr.alloc (.cells #[.string (bs (wordJ f.val)),.int .i64 (numJ f.val:Int)] 82)=w5:=⟨_,rfl⟩
      have hb5:Below wr.heap.size wr w5:=by rw [<- hw5];exact (Below.refl _ wr).alloc (Nat.le_refl _) _
      have b5:w5.heap[wr.heap.size]?=some (.cells #[.string (bs (wordJ f.val)),.int .i64 (numJ f.val:Int)] 82 (0,0)):=by rw [<- hw5];exact heap_alloc_new _ _
      have hz5:wr.heap.size < w5.heap.size:=by rw [<- hw5];simp
      rw [hw5]
      have hx5:=hbx.trans (hb5.mono hbx.size)
      have g0:=cell_of_row _ wr.heap.size 0 _ _ _ b5
      have g1:=cell_of_row _ wr.heap.size 1 _ _ _ b5
      have d0:=(hx5.cell (p:=⟨w0.heap.size,0,none⟩) hlw).trans HW0.out
      go_quiet (fail)
      have HG:=Lib.hid (fun (W':World) (hb:Below w5.heap.size w5 W')=>show W'.cell? ⟨wr.heap.size,0,none⟩=some (.string (bs (wordJ f.val)))∧W'.cell? ⟨wr.heap.size,1,none⟩=some (.int .i64 (numJ f.val:Int)) from ⟨(hb.cell (p:=⟨wr.heap.size,0,none⟩) hz5).trans g0,(hb.cell (p:=⟨wr.heap.size,1,none⟩) hz5).trans g1⟩)
      have hd5:Below w5.heap.size w5 w5.drew:=(Below.refl _ w5).drew
      clear hw5 d0 hb5 b5
      have hx6:=hx5.trans ((Below.drewN (Below.refl w5.heap.size w5) nq).mono hx5.size)
      have hz6:wr.heap.size < (w5.drewN nq).heap.size:=hz5
      have HG6:=Lib.hid (fun (W':World) (hb:Below (w5.drewN nq).heap.size (w5.drewN nq) W')=>HG.out W' ((Below.drewN (Below.refl w5.heap.size w5) nq).trans hb))
      clear g0 g1 hd5 HG hx5 hz5
      generalize w5.drewN nq=w6 at *
      have hd6:Below w6.heap.size w6 w6.drew:=(Below.refl _ w6).drew
      obtain ⟨g0,g1⟩:=HG6.out _ (Below.refl _ w6)
      cases hnm:namesOk r (numJ f.val) with
      | false =>
       have HZ:=Lib.hid hnm
       have HV:=Lib.hid (read_bad (j:=f.val) f.isLt HC.out (show ¬ (r.length=numJ f.val∧r.all dig2=true) from names_no hnm))
       clear hnm
       go_wp2_with fail
       go_region_held3 (fun W'=>W'.cell? ⟨wr.heap.size,0,none⟩=some (.string (bs (wordJ f.val)))∧W'.cell? ⟨wr.heap.size,1,none⟩=some (.int .i64 (numJ f.val:Int)))
        (first
          | exact HG6.out _ hx7
          | go_keep)
        (first
          | (go_at_call 99;refine (HNk.out w6.drew (hx6.trans (hd6.mono hx6.size))).mono ?_;rintro e w7 ⟨⟨v,rfl,-⟩,hb7⟩;rw [HZ.out];have hx7:Below w6.heap.size w6 w7:=hd6.trans hb7)
          | fail)
       have hy7:=hx6.trans (hx7.mono hx6.size)
       have b7:=(hy7.block w.heap.size (by omega)).trans ((hb1.block w.heap.size hz0).trans bR)
       obtain ⟨r0,r1,r2⟩:w7.cell? ⟨w.heap.size,0,none⟩=some (.int .i64 0)∧w7.cell? ⟨w.heap.size,1,none⟩=some (.int .i64 0)∧w7.cell? ⟨w.heap.size,2,none⟩=some (.int .i64 0):=⟨cell_of_row _ _ 0 _ _ _ b7,cell_of_row _ _ 1 _ _ _ b7,cell_of_row _ _ 2 _ _ _ b7⟩
       obtain ⟨f0,f1,f2⟩:w7.frozen? ⟨w.heap.size,0,none⟩=false∧w7.frozen? ⟨w.heap.size,1,none⟩=false∧w7.frozen? ⟨w.heap.size,2,none⟩=false:=⟨unfrozenB b7,unfrozenB b7,unfrozenB b7⟩
       have HY:=Lib.hid (hb0.trans ((hb1.trans (hy7.mono hz1)).mono (Nat.le_of_lt hz0)))
       clear g0 g1 hx7 hy7 hb7 hd6 hx6
       go_wp2_with fail
       obtain ⟨m0,m1,m2⟩:=put3 (.int .i64 0) (.int .i64 0) (.int .i64 0) b7
       refine bodyPost_ret (v:=.tuple #[.agg #[.int .i64 0,.int .i64 0,.int .i64 0],.bool false]) (by simp [results,Tryz.f44,go_sem,m0,m1,m2]) rfl ?_
       exact ⟨by rw [HV.out];rfl,((HY.out.setCell (p:=⟨w.heap.size,0,none⟩) (Nat.le_refl _) _).setCell (p:=⟨w.heap.size,1,none⟩) (Nat.le_refl _) _).setCell (p:=⟨w.heap.size,2,none⟩) (Nat.le_refl _) _⟩
      | true =>
       have HZ:=Lib.hid hnm
       have hp:=names_parts hnm
       have HV:=Lib.hid (read_yes (j:=f.val) f.isLt HC.out (show r.length=numJ f.val from hp.1) hp.2)
       have hl2:(valsN r).length<=2:=by rw [valsN,List.length_map,hp.1];exact num_le f
       clear hnm hp
       go_wp2_with fail
       go_region_held3 (fun W'=>W'.cell? ⟨wr.heap.size,0,none⟩=some (.string (bs (wordJ f.val)))∧W'.cell? ⟨wr.heap.size,1,none⟩=some (.int .i64 (numJ f.val:Int)))
        (first
          | exact HG6.out _ hx7
          | go_keep)
        (first
          | (go_at_call 99;refine (HNk.out w6.drew (hx6.trans (hd6.mono hx6.size))).mono ?_;rintro e w7 ⟨⟨v,rfl,hv⟩,hb7⟩;obtain ⟨A7,c7,rfl,-,-,hI7⟩:=(hv HZ.out).form;rw [HZ.out];have hx7:Below w6.heap.size w6 w7:=hd6.trans hb7)
          | fail)
       have hy7:=hx6.trans (hx7.mono hx6.size)
       have HD:=Lib.hid (show Calls Tryz.prog 100 #[.int .i64 (f.val:Int),.slice A7 (valsN r).length c7] w7 fun e w'=>e=.returned (.agg #[.int .i64 (f.val:Int),.int .i64 (Z (valsN r) 0),.int .i64 (Z (valsN r) 1)])∧Below w7.heap.size w7 w' from c_deedOf (f.val:Int) (valsN r) A7 c7 w7 hI7 hl2)
       have HY7:=Lib.hid hy7
       clear g0 g1 hx7 hy7 hb7 hd6 hx6 hv hI7 hl2
       go_wp2_with fail
       refine HD.out.mono ?_
       rintro e w8 ⟨rfl,hb8⟩
       have hy8:=HY7.out.trans (hb8.mono HY7.out.size)
       have b7:=(hy8.block w.heap.size (by omega)).trans ((hb1.block w.heap.size hz0).trans bR)
       obtain ⟨r0,r1,r2⟩:w8.cell? ⟨w.heap.size,0,none⟩=some (.int .i64 0)∧w8.cell? ⟨w.heap.size,1,none⟩=some (.int .i64 0)∧w8.cell? ⟨w.heap.size,2,none⟩=some (.int .i64 0):=⟨cell_of_row _ _ 0 _ _ _ b7,cell_of_row _ _ 1 _ _ _ b7,cell_of_row _ _ 2 _ _ _ b7⟩
       obtain ⟨f0,f1,f2⟩:w8.frozen? ⟨w.heap.size,0,none⟩=false∧w8.frozen? ⟨w.heap.size,1,none⟩=false∧w8.frozen? ⟨w.heap.size,2,none⟩=false:=⟨unfrozenB b7,unfrozenB b7,unfrozenB b7⟩
       have HY:=Lib.hid (hb0.trans ((hb1.trans (hy8.mono hz1)).mono (Nat.le_of_lt hz0)))
       clear hy8 hb8
       go_wp2_with fail
       obtain ⟨m0,m1,m2⟩:=put3 (.int .i64 (f.val:Int)) (.int .i64 (Z (valsN r) 0)) (.int .i64 (Z (valsN r) 1)) b7
       refine bodyPost_ret (v:=.tuple #[.agg #[.int .i64 (f.val:Int),.int .i64 (Z (valsN r) 0),.int .i64 (Z (valsN r) 1)],.bool true]) (by simp [results,Tryz.f44,go_sem,m0,m1,m2]) rfl ?_
       exact ⟨by rw [HV.out,Z_vals,Z_vals];rfl,((HY.out.setCell (p:=⟨w.heap.size,0,none⟩) (Nat.le_refl _) _).setCell (p:=⟨w.heap.size,1,none⟩) (Nat.le_refl _) _).setCell (p:=⟨w.heap.size,2,none⟩) (Nat.le_refl _) _⟩
     ·have hne:((bs x).toList == (bs (wordJ f.val)).toList)=false:=by rw [bs_list,bs_list];simpa using hx
      have HNx:=Lib.hid (show ∀ j,j < f.val+1->x≠wordJ j from fun j hj=>by
       rcases Nat.lt_succ_iff_lt_or_eq.1 hj with h | rfl
       ·exact HN.out j h
       ·exact hx)
      clear hx
      go_wp2_with fail
      obtain ⟨w5,hw5⟩:∃ w5,wr.alloc (.cells #[.string (bs (wordJ f.val)),.int .i64 (numJ f.val:Int)] 82)=w5:=⟨_,rfl⟩
      have hb5:Below wr.heap.size wr w5:=by rw [<- hw5];exact (Below.refl _ wr).alloc (Nat.le_refl _) _
      have b5:w5.heap[wr.heap.size]?=some (.cells #[.string (bs (wordJ f.val)),.int .i64 (numJ f.val:Int)] 82 (0,0)):=by rw [<- hw5];exact heap_alloc_new _ _
      rw [hw5]
      have hx5:=hbx.trans (hb5.mono hbx.size)
      have g0:=cell_of_row _ wr.heap.size 0 _ _ _ b5
      have d0:=(hx5.cell (p:=⟨w0.heap.size,0,none⟩) hlw).trans HW0.out
      go_quiet (fail)
      have HB6:=Lib.hid (show Below w2.heap.size w2 (w5.drewN nq) from hb.trans ((hb5.trans (Below.drewN (Below.refl wr.heap.size w5) nq)).mono hb.size))
      clear hw5 d0 g0 hb5 b5 hx5
      generalize w5.drewN nq=w6 at *
      go_wp2_with fail
      go_roundw
      case rel=>exact ⟨f.val+1,f.isLt,by go_num,HNx,HB6.out⟩
      case measure=>simp [intOf];omega
   ·have hk5:k=5:=by omega
    have HV:=Lib.hid (read_none HCut.out (fun j hj=>HN.out j (by omega)))
    subst hk5
    have b7:=(hbx.block w.heap.size (by omega)).trans ((hb1.block w.heap.size hz0).trans bR)
    obtain ⟨r0,r1,r2⟩:wr.cell? ⟨w.heap.size,0,none⟩=some (.int .i64 0)∧wr.cell? ⟨w.heap.size,1,none⟩=some (.int .i64 0)∧wr.cell? ⟨w.heap.size,2,none⟩=some (.int .i64 0):=⟨cell_of_row _ _ 0 _ _ _ b7,cell_of_row _ _ 1 _ _ _ b7,cell_of_row _ _ 2 _ _ _ b7⟩
    obtain ⟨f0,f1,f2⟩:wr.frozen? ⟨w.heap.size,0,none⟩=false∧wr.frozen? ⟨w.heap.size,1,none⟩=false∧wr.frozen? ⟨w.heap.size,2,none⟩=false:=⟨unfrozenB b7,unfrozenB b7,unfrozenB b7⟩
    have HY:=Lib.hid (hb0.trans ((hb1.trans (hbx.mono hz1)).mono (Nat.le_of_lt hz0)))
    go_wp2_with fail
    obtain ⟨m0,m1,m2⟩:=put3 (.int .i64 0) (.int .i64 0) (.int .i64 0) b7
    refine bodyPost_ret (v:=.tuple #[.agg #[.int .i64 0,.int .i64 0,.int .i64 0],.bool false]) (by simp [results,Tryz.f44,go_sem,m0,m1,m2]) rfl ?_
    exact ⟨by rw [HV.out];rfl,((HY.out.setCell (p:=⟨w.heap.size,0,none⟩) (Nat.le_refl _) _).setCell (p:=⟨w.heap.size,1,none⟩) (Nat.le_refl _) _).setCell (p:=⟨w.heap.size,2,none⟩) (Nat.le_refl _) _⟩
 ·have s0:0 < n1:=by omega
  go_enter Tryz.func44,Tryz.ntmps44
  go_wp2_with fail
  refine HSp.out.mono ?_
  rintro e w1 ⟨rfl,hS,hb1⟩
  obtain ⟨b',off',e1,hlw,hcw⟩:=hS (by simp)
  cases e1
  have HW0:=Lib.hid (show w1.cell? ⟨w0.heap.size,0,none⟩=some (.string (bs x)) from hcw 0 (by simp))
  have HNum:=Lib.hid (fun (n:Nat) (W:ByteArray) (W':World) (hb:Below w1.heap.size w1 W')=>show Calls Tryz.prog 99 #[.agg #[.string W,.int .i64 (n:Int)],.slice (some ⟨w0.heap.size,1,none⟩) (n1 - 1) (n1 - 1)] W' fun e w'=>(∃ v,e=.returned (.tuple #[v,.bool (namesOk r n)])∧(namesOk r n=true->IO w' W'.heap.size v (valsN r)))∧Below W'.heap.size W' w' from by
   have hr0:Ss w1 w1.heap.size (some ⟨w0.heap.size,0+1,none⟩) ((x::r).drop 1):=hS.drop 1
   have K:=c_readNumbers r W n (some ⟨w0.heap.size,1,none⟩) r.length W' (((by simpa using hr0:Ss w1 w1.heap.size (some ⟨w0.heap.size,1,none⟩) r).below hb).more hb.size) hr1 hrx (HV0.out.at (hb1.trans (hb.mono hb1.size)))
   rwa [show r.length=n1 - 1 by omega] at K)
  clear hcw hS hw0
  have hz1:=hb1.size
  have s1:1 < n1:=by omega
  have s2:(1:Int)<=(n1:Int):=by omega
  clear hrl hr1 hrx
  go_wp2_with fail
  refine (c_deedForms _).mono ?_
  rintro e w2 ⟨rfl,hb2⟩
  have hz2:=hb2.size
  go_wp2_with fail
  go_loopw [12] (fun i wr=>∃ k:Nat,k<=5∧i=.int .i64 (k:Int)∧Hid (∀ j,j < k->x≠wordJ j)∧Below w2.heap.size w2 wr) (fun i _=>5 - (intOf i).toNat)
  case atStart=>exact ⟨0,by omega,rfl,Lib.hid (fun j hj=>by omega),Below.refl _ _⟩
  case round =>
   obtain ⟨k,hk,rfl,HN,hb⟩:=hrel
   have hbx:Below w1.heap.size w1 wr:=hb2.trans (hb.mono hz2)
   by_cases h5:k < 5
   ·obtain ⟨f,rfl⟩:∃ f:Fin 5,k=f.val:=⟨⟨k,h5⟩,rfl⟩
    have q5:((f.val:Nat):Int) < 5:=by omega
    have q6:(0:Int)<=((f.val:Nat):Int):=by omega
    clear h5 hk
    ·have HNk:=Lib.hid (fun (W':World) (hb:Below w1.heap.size w1 W')=>show Calls Tryz.prog 99 #[.agg #[.string (bs (wordJ f.val)),.int .i64 (numJ f.val:Int)],.slice (some ⟨w0.heap.size,1,none⟩) (n1 - 1) (n1 - 1)] W' fun e w'=>(∃ v,e=.returned (.tuple #[v,.bool (namesOk r (numJ f.val))])∧(namesOk r (numJ f.val)=true->IO w' W'.heap.size v (valsN r)))∧Below W'.heap.size W' w' from HNum.out (numJ f.val) (bs (wordJ f.val)) W' hb)
     by_cases hx:x=wordJ f.val
     ·have hne:((bs x).toList == (bs (wordJ f.val)).toList)=true:=by rw [hx];simp
      have HC:=Lib.hid (show cutL 32 l=wordJ f.val::r by rw [HCut.out,hx])
      clear hx
      go_wp2_with fail
      obtain ⟨w5,hw5⟩:∃ w5,wr.alloc (.cells #[.string (bs (wordJ f.val)),.int .i64 (numJ f.val:Int)] 82)=w5:=⟨_,rfl⟩
      have hb5:Below wr.heap.size wr w5:=by rw [<- hw5];exact (Below.refl _ wr).alloc (Nat.le_refl _) _
      have b5:w5.heap[wr.heap.size]?=some (.cells #[.string (bs (wordJ f.val)),.int .i64 (numJ f.val:Int)] 82 (0,0)):=by rw [<- hw5];exact heap_alloc_new _ _
      have hz5:wr.heap.size < w5.heap.size:=by rw [<- hw5];simp
      rw [hw5]
      have hx5:=hbx.trans (hb5.mono hbx.size)
      have g0:=cell_of_row _ wr.heap.size 0 _ _ _ b5
      have g1:=cell_of_row _ wr.heap.size 1 _ _ _ b5
      have d0:=(hx5.cell (p:=⟨w0.heap.size,0,none⟩) hlw).trans HW0.out
      go_quiet (fail)
      have HG:=Lib.hid (fun (W':World) (hb:Below w5.heap.size w5 W')=>show W'.cell? ⟨wr.heap.size,0,none⟩=some (.string (bs (wordJ f.val)))∧W'.cell? ⟨wr.heap.size,1,none⟩=some (.int .i64 (numJ f.val:Int)) from ⟨(hb.cell (p:=⟨wr.heap.size,0,none⟩) hz5).trans g0,(hb.cell (p:=⟨wr.heap.size,1,none⟩) hz5).trans g1⟩)
      have hd5:Below w5.heap.size w5 w5.drew:=(Below.refl _ w5).drew
      clear hw5 d0 hb5 b5
      have hx6:=hx5.trans ((Below.drewN (Below.refl w5.heap.size w5) nq).mono hx5.size)
      have hz6:wr.heap.size < (w5.drewN nq).heap.size:=hz5
      have HG6:=Lib.hid (fun (W':World) (hb:Below (w5.drewN nq).heap.size (w5.drewN nq) W')=>HG.out W' ((Below.drewN (Below.refl w5.heap.size w5) nq).trans hb))
      clear g0 g1 hd5 HG hx5 hz5
      generalize w5.drewN nq=w6 at *
      have hd6:Below w6.heap.size w6 w6.drew:=(Below.refl _ w6).drew
      obtain ⟨g0,g1⟩:=HG6.out _ (Below.refl _ w6)
      cases hnm:namesOk r (numJ f.val) with
      | false =>
       have HZ:=Lib.hid hnm
       have HV:=Lib.hid (read_bad (j:=f.val) f.isLt HC.out (show ¬ (r.length=numJ f.val∧r.all dig2=true) from names_no hnm))
       clear hnm
       go_wp2_with fail
       go_region_held3 (fun W'=>W'.cell? ⟨wr.heap.size,0,none⟩=some (.string (bs (wordJ f.val)))∧W'.cell? ⟨wr.heap.size,1,none⟩=some (.int .i64 (numJ f.val:Int)))
        (first
          | exact HG6.out _ hx7
          | go_keep)
        (first
          | (go_at_call 99;refine (HNk.out w6.drew (hx6.trans (hd6.mono hx6.size))).mono ?_;rintro e w7 ⟨⟨v,rfl,-⟩,hb7⟩;rw [HZ.out];have hx7:Below w6.heap.size w6 w7:=hd6.trans hb7)
          | fail)
       have hy7:=hx6.trans (hx7.mono hx6.size)
       have b7:=(hy7.block w.heap.size (by omega)).trans ((hb1.block w.heap.size hz0).trans bR)
       obtain ⟨r0,r1,r2⟩:w7.cell? ⟨w.heap.size,0,none⟩=some (.int .i64 0)∧w7.cell? ⟨w.heap.size,1,none⟩=some (.int .i64 0)∧w7.cell? ⟨w.heap.size,2,none⟩=some (.int .i64 0):=⟨cell_of_row _ _ 0 _ _ _ b7,cell_of_row _ _ 1 _ _ _ b7,cell_of_row _ _ 2 _ _ _ b7⟩
       obtain ⟨f0,f1,f2⟩:w7.frozen? ⟨w.heap.size,0,none⟩=false∧w7.frozen? ⟨w.heap.size,1,none⟩=false∧w7.frozen? ⟨w.heap.size,2,none⟩=false:=⟨unfrozenB b7,unfrozenB b7,unfrozenB b7⟩
       have HY:=Lib.hid (hb0.trans ((hb1.trans (hy7.mono hz1)).mono (Nat.le_of_lt hz0)))
       clear g0 g1 hx7 hy7 hb7 hd6 hx6
       go_wp2_with fail
       obtain ⟨m0,m1,m2⟩:=put3 (.int .i64 0) (.int .i64 0) (.int .i64 0) b7
       refine bodyPost_ret (v:=.tuple #[.agg #[.int .i64 0,.int .i64 0,.int .i64 0],.bool false]) (by simp [results,Tryz.f44,go_sem,m0,m1,m2]) rfl ?_
       exact ⟨by rw [HV.out];rfl,((HY.out.setCell (p:=⟨w.heap.size,0,none⟩) (Nat.le_refl _) _).setCell (p:=⟨w.heap.size,1,none⟩) (Nat.le_refl _) _).setCell (p:=⟨w.heap.size,2,none⟩) (Nat.le_refl _) _⟩
      | true =>
       have HZ:=Lib.hid hnm
       have hp:=names_parts hnm
       have HV:=Lib.hid (read_yes (j:=f.val) f.isLt HC.out (show r.length=numJ f.val from hp.1) hp.2)
       have hl2:(valsN r).length<=2:=by rw [valsN,List.length_map,hp.1];exact num_le f
       clear hnm hp
       go_wp2_with fail
       go_region_held3 (fun W'=>W'.cell? ⟨wr.heap.size,0,none⟩=some (.string (bs (wordJ f.val)))∧W'.cell? ⟨wr.heap.size,1,none⟩=some (.int .i64 (numJ f.val:Int)))
        (first
          | exact HG6.out _ hx7
          | go_keep)
        (first
          | (go_at_call 99;refine (HNk.out w6.drew (hx6.trans (hd6.mono hx6.size))).mono ?_;rintro e w7 ⟨⟨v,rfl,hv⟩,hb7⟩;obtain ⟨A7,c7,rfl,-,-,hI7⟩:=(hv HZ.out).form;rw [HZ.out];have hx7:Below w6.heap.size w6 w7:=hd6.trans hb7)
          | fail)
       have hy7:=hx6.trans (hx7.mono hx6.size)
       have HD:=Lib.hid (show Calls Tryz.prog 100 #[.int .i64 (f.val:Int),.slice A7 (valsN r).length c7] w7 fun e w'=>e=.returned (.agg #[.int .i64 (f.val:Int),.int .i64 (Z (valsN r) 0),.int .i64 (Z (valsN r) 1)])∧Below w7.heap.size w7 w' from c_deedOf (f.val:Int) (valsN r) A7 c7 w7 hI7 hl2)
       have HY7:=Lib.hid hy7
       clear g0 g1 hx7 hy7 hb7 hd6 hx6 hv hI7 hl2
       go_wp2_with fail
       refine HD.out.mono ?_
       rintro e w8 ⟨rfl,hb8⟩
       have hy8:=HY7.out.trans (hb8.mono HY7.out.size)
       have b7:=(hy8.block w.heap.size (by omega)).trans ((hb1.block w.heap.size hz0).trans bR)
       obtain ⟨r0,r1,r2⟩:w8.cell? ⟨w.heap.size,0,none⟩=some (.int .i64 0)∧w8.cell? ⟨w.heap.size,1,none⟩=some (.int .i64 0)∧w8.cell? ⟨w.heap.size,2,none⟩=some (.int .i64 0):=⟨cell_of_row _ _ 0 _ _ _ b7,cell_of_row _ _ 1 _ _ _ b7,cell_of_row _ _ 2 _ _ _ b7⟩
       obtain ⟨f0,f1,f2⟩:w8.frozen? ⟨w.heap.size,0,none⟩=false∧w8.frozen? ⟨w.heap.size,1,none⟩=false∧w8.frozen? ⟨w.heap.size,2,none⟩=false:=⟨unfrozenB b7,unfrozenB b7,unfrozenB b7⟩
       have HY:=Lib.hid (hb0.trans ((hb1.trans (hy8.mono hz1)).mono (Nat.le_of_lt hz0)))
       clear hy8 hb8
       go_wp2_with fail
       obtain ⟨m0,m1,m2⟩:=put3 (.int .i64 (f.val:Int)) (.int .i64 (Z (valsN r) 0)) (.int .i64 (Z (valsN r) 1)) b7
       refine bodyPost_ret (v:=.tuple #[.agg #[.int .i64 (f.val:Int),.int .i64 (Z (valsN r) 0),.int .i64 (Z (valsN r) 1)],.bool true]) (by simp [results,Tryz.f44,go_sem,m0,m1,m2]) rfl ?_
       exact ⟨by rw [HV.out,Z_vals,Z_vals];rfl,((HY.out.setCell (p:=⟨w.heap.size,0,none⟩) (Nat.le_refl _) _).setCell (p:=⟨w.heap.size,1,none⟩) (Nat.le_refl _) _).setCell (p:=⟨w.heap.size,2,none⟩) (Nat.le_refl _) _⟩
     ·have hne:((bs x).toList == (bs (wordJ f.val)).toList)=false:=by rw [bs_list,bs_list];simpa using hx
      have HNx:=Lib.hid (show ∀ j,j < f.val+1->x≠wordJ j from fun j hj=>by
       rcases Nat.lt_succ_iff_lt_or_eq.1 hj with h | rfl
       ·exact HN.out j h
       ·exact hx)
      clear hx
      go_wp2_with fail
      obtain ⟨w5,hw5⟩:∃ w5,wr.alloc (.cells #[.string (bs (wordJ f.val)),.int .i64 (numJ f.val:Int)] 82)=w5:=⟨_,rfl⟩
      have hb5:Below wr.heap.size wr w5:=by rw [<- hw5];exact (Below.refl _ wr).alloc (Nat.le_refl _) _
      have b5:w5.heap[wr.heap.size]?=some (.cells #[.string (bs (wordJ f.val)),.int .i64 (numJ f.val:Int)] 82 (0,0)):=by rw [<- hw5];exact heap_alloc_new _ _
      rw [hw5]
      have hx5:=hbx.trans (hb5.mono hbx.size)
      have g0:=cell_of_row _ wr.heap.size 0 _ _ _ b5
      have d0:=(hx5.cell (p:=⟨w0.heap.size,0,none⟩) hlw).trans HW0.out
      go_quiet (fail)
      have HB6:=Lib.hid (show Below w2.heap.size w2 (w5.drewN nq) from hb.trans ((hb5.trans (Below.drewN (Below.refl wr.heap.size w5) nq)).mono hb.size))
      clear hw5 d0 g0 hb5 b5 hx5
      generalize w5.drewN nq=w6 at *
      go_wp2_with fail
      go_roundw
      case rel=>exact ⟨f.val+1,f.isLt,by go_num,HNx,HB6.out⟩
      case measure=>simp [intOf];omega
   ·have hk5:k=5:=by omega
    have HV:=Lib.hid (read_none HCut.out (fun j hj=>HN.out j (by omega)))
    subst hk5
    have b7:=(hbx.block w.heap.size (by omega)).trans ((hb1.block w.heap.size hz0).trans bR)
    obtain ⟨r0,r1,r2⟩:wr.cell? ⟨w.heap.size,0,none⟩=some (.int .i64 0)∧wr.cell? ⟨w.heap.size,1,none⟩=some (.int .i64 0)∧wr.cell? ⟨w.heap.size,2,none⟩=some (.int .i64 0):=⟨cell_of_row _ _ 0 _ _ _ b7,cell_of_row _ _ 1 _ _ _ b7,cell_of_row _ _ 2 _ _ _ b7⟩
    obtain ⟨f0,f1,f2⟩:wr.frozen? ⟨w.heap.size,0,none⟩=false∧wr.frozen? ⟨w.heap.size,1,none⟩=false∧wr.frozen? ⟨w.heap.size,2,none⟩=false:=⟨unfrozenB b7,unfrozenB b7,unfrozenB b7⟩
    have HY:=Lib.hid (hb0.trans ((hb1.trans (hbx.mono hz1)).mono (Nat.le_of_lt hz0)))
    go_wp2_with fail
    obtain ⟨m0,m1,m2⟩:=put3 (.int .i64 0) (.int .i64 0) (.int .i64 0) b7
    refine bodyPost_ret (v:=.tuple #[.agg #[.int .i64 0,.int .i64 0,.int .i64 0],.bool false]) (by simp [results,Tryz.f44,go_sem,m0,m1,m2]) rfl ?_
    exact ⟨by rw [HV.out];rfl,((HY.out.setCell (p:=⟨w.heap.size,0,none⟩) (Nat.le_refl _) _).setCell (p:=⟨w.heap.size,1,none⟩) (Nat.le_refl _) _).setCell (p:=⟨w.heap.size,2,none⟩) (Nat.le_refl _) _⟩
end
section
def builderRen:Go.Shelf.Ren:=⟨fun | 166=>57 | 167=>58 | 240=>115 | 276=>151 | n=>n,
 fun | 0=>0 | 3=>3 | 4=>4 | 5=>5 | 9=>9 | 20=>20 | 37=>22 | 70=>89 | 72=>91 | 75=>93 | 80=>97 | 164=>167 | n=>n,fun | n=>n⟩
theorem builder_X:Builder.Extra Tryz.prog builderRen:={
 sizeBuilder:=by kernel_rfl
 liesBuilder:=by kernel_rfl
 t5:=Tryz.underlying5
 a5:=Tryz.isAgg5
 z5:=Tryz.sizeOf5
 v5:=Tryz.zeroValue5
 infoByte:=by kernel_rfl
 cellsByte:=by kernel_rfl
 sizeByte:=by kernel_rfl
 neB5:=by decide }
theorem builder_lays166:Go.Proofs.Lays.n166 Tryz.prog builderRen:={
 mixed:=by kernel_rfl
 f166:=Tryz.func57.trans (congrArg some (by kernel_rfl))
 f240:=Tryz.func115.trans (congrArg some (by kernel_rfl))
 f276:=Tryz.func151.trans (congrArg some (by kernel_rfl))
 t0:=Tryz.underlying0
 a0:=Tryz.isAgg0
 z0:=Tryz.sizeOf0
 v0:=Tryz.zeroValue0
 t3:=Tryz.underlying3
 a3:=Tryz.isAgg3
 z3:=Tryz.sizeOf3
 v3:=Tryz.zeroValue3
 t4:=Tryz.underlying4
 a4:=Tryz.isAgg4
 z4:=Tryz.sizeOf4
 v4:=Tryz.zeroValue4
 t9:=Tryz.underlying9
 a9:=Tryz.isAgg9
 z9:=Tryz.sizeOf9
 v9:=Tryz.zeroValue9
 t20:=Tryz.underlying20
 a20:=Tryz.isAgg20
 z20:=Tryz.sizeOf20
 v20:=Tryz.zeroValue20
 t37:=Tryz.underlying22
 a37:=Tryz.isAgg22
 z37:=Tryz.sizeOf22
 v37:=Tryz.zeroValue22
 t70:=Tryz.underlying89
 a70:=Tryz.isAgg89
 z70:=Tryz.sizeOf89
 v70:=Tryz.zeroValue89
 t72:=Tryz.underlying91
 a72:=Tryz.isAgg91
 z72:=Tryz.sizeOf91
 v72:=Tryz.zeroValue91
 t75:=Tryz.underlying93
 a75:=Tryz.isAgg93
 z75:=Tryz.sizeOf93
 v75:=Tryz.zeroValue93
 t164:=Tryz.underlying167
 a164:=Tryz.isAgg167
 z164:=Tryz.sizeOf167
 v164:=Tryz.zeroValue167 }
theorem builder_lays167:Go.Proofs.Lays.n167 Tryz.prog builderRen:={
 mixed:=by kernel_rfl
 f167:=Tryz.func58.trans (congrArg some (by kernel_rfl))
 f240:=Tryz.func115.trans (congrArg some (by kernel_rfl))
 f276:=Tryz.func151.trans (congrArg some (by kernel_rfl))
 t0:=Tryz.underlying0
 a0:=Tryz.isAgg0
 z0:=Tryz.sizeOf0
 v0:=Tryz.zeroValue0
 t4:=Tryz.underlying4
 a4:=Tryz.isAgg4
 z4:=Tryz.sizeOf4
 v4:=Tryz.zeroValue4
 t5:=Tryz.underlying5
 a5:=Tryz.isAgg5
 z5:=Tryz.sizeOf5
 v5:=Tryz.zeroValue5
 t9:=Tryz.underlying9
 a9:=Tryz.isAgg9
 z9:=Tryz.sizeOf9
 v9:=Tryz.zeroValue9
 t20:=Tryz.underlying20
 a20:=Tryz.isAgg20
 z20:=Tryz.sizeOf20
 v20:=Tryz.zeroValue20
 t37:=Tryz.underlying22
 a37:=Tryz.isAgg22
 z37:=Tryz.sizeOf22
 v37:=Tryz.zeroValue22
 t70:=Tryz.underlying89
 a70:=Tryz.isAgg89
 z70:=Tryz.sizeOf89
 v70:=Tryz.zeroValue89
 t72:=Tryz.underlying91
 a72:=Tryz.isAgg91
 z72:=Tryz.sizeOf91
 v72:=Tryz.zeroValue91
 t75:=Tryz.underlying93
 a75:=Tryz.isAgg93
 z75:=Tryz.sizeOf93
 v75:=Tryz.zeroValue93
 t164:=Tryz.underlying167
 a164:=Tryz.isAgg167
 z164:=Tryz.sizeOf167
 v164:=Tryz.zeroValue167 }
theorem c_writeString (B b:Nat) (bs:List Value) (s:ByteArray) (w:World) (h:Lib.IsBuilder 91 5 B b bs w) (hlen:bs.length+s.size<=140737488355328) (hBw:B<=w.heap.size) :
  Calls Tryz.prog 57 #[.pointer (some ⟨b,0,none⟩),.string s] w fun e w'=>e=.returned (.tuple #[.int .i64 s.size,.nilIface])∧(Lib.BuilderAt 91 5 B b (.pointer (some ⟨b,0,none⟩)) (bs++Lib.strCells s) w'∧Below B w w'):=Any.Builder_WriteString builder_lays166 builder_X B b bs s w h hlen hBw
theorem c_writeByte (B b:Nat) (bs:List Value) (c:Int) (w:World) (h:Lib.IsBuilder 91 5 B b bs w) (hlen:bs.length+1<=140737488355328) (hBw:B<=w.heap.size) :
  Calls Tryz.prog 58 #[.pointer (some ⟨b,0,none⟩),.int .u8 c] w fun e w'=>e=.returned .nilIface∧(Lib.BuilderAt 91 5 B b (.pointer (some ⟨b,0,none⟩)) (bs++[.int .u8 c]) w'∧Below B w w'):=Any.Builder_WriteByte builder_lays167 builder_X B b bs c w h hlen hBw
end
section
attribute [local go_sem ↓] Go.wp_at_zero Go.wp_at_succ
abbrev BuilderIs (w:World) (B b:Nat) (t:List UInt8):Prop:=Lib.IsBuilder 91 5 B b (Lib.byteCells t) w
theorem builder_at {T e:TypeId} {B b:Nat} {p:Value} {xs:List Value} {w w':World} (h:Lib.BuilderAt T e B b p xs w) {H:Nat} (hb:Below H w w') (hH:w.heap.size<=H):Lib.BuilderAt T e B b p xs w':=by
 have hlt:=h.lt
 obtain ⟨h1,v,h2,h3,h4⟩:=h
 exact ⟨h1,v,(hb.block b (by omega)).trans h2,owns_below h3 hb hH,h4⟩
theorem builder_below {T e:TypeId} {B b:Nat} {xs:List Value} {w w':World} (h:Lib.IsBuilder T e B b xs w) {H:Nat} (hb:Below H w w') (hH:w.heap.size<=H):Lib.IsBuilder T e B b xs w':=by
 rcases h with h | h
 ·exact .inl (builder_at h hb hH)
 ·exact .inr (builder_at h hb hH)
theorem bytes_app (x y:List UInt8):Lib.byteCells x++Lib.byteCells y=Lib.byteCells (x++y):=by simp [Lib.byteCells]
theorem bytes_len (x:List UInt8):(Lib.byteCells x).length=x.length:=by simp [Lib.byteCells]
theorem c_iJournalText (L:List DV) (A:Option Addr) (c:Nat) (w:World) (hE:Ds3 w w.heap.size A L) (hcap:L.length<=c) (hn:L.length<=100000000) :
  Calls Tryz.prog 17 #[.slice A L.length c] w fun e w'=>e=.returned (.string (bs (journalL L)))∧Below w.heap.size w w':=by
 obtain ⟨w0,hw0⟩:∃ w0,w.alloc (.cells #[.pointer none,.slice none 0 0] 91)=w0:=⟨_,rfl⟩
 have hb0:Below w.heap.size w w0:=by rw [<- hw0];exact (Below.refl _ w).alloc (Nat.le_refl _) _
 have bl0:BuilderIs w0 w.heap.size w.heap.size []:=by
  rw [<- hw0]
  exact .inl ⟨Nat.le_refl _,_,heap_alloc_new _ _,⟨rfl,.inl ⟨rfl,rfl⟩⟩,by simp [Value.ownBlock]⟩
 have HE:=Lib.hid hE
 have HLn:=Lib.hid (fun k=>jTo_len (L.take k))
 have HB:=Lib.hid (fun k (hk:k < L.length)=>jOk_bad hk)
 clear hE
 go_enter Tryz.func17,Tryz.ntmps17
 go_wp2_with fail
 clear hw0
 go_loopw [9] (fun i wr=>∃ k:Nat,k<=L.length∧i=.int .i64 (k:Int)∧Hid (jOk (L.take k)=true)∧BuilderIs wr w.heap.size w.heap.size (jTo (L.take k))∧Below w.heap.size w wr) (fun i _=>L.length - (intOf i).toNat)
 case atStart=>exact ⟨0,by omega,rfl,rfl,bl0,hb0⟩
 case round =>
  clear bl0 hb0
  obtain ⟨k,hk,rfl,hok,bl,hb⟩:=hrel
  have hsz:=hb.size
  by_cases hlt:k < L.length
  ·obtain ⟨b,off,rfl,hlb,hc⟩:=HE.out (by omega)
   obtain ⟨y0,y1,y2⟩:=hc k hlt
   have d0:=(hb.cell (p:=⟨b,off+k * 3,none⟩) hlb).trans y0
   have d1:=(hb.cell (p:=⟨b,off+k * 3+1,none⟩) hlb).trans y1
   have d2:=(hb.cell (p:=⟨b,off+k * 3+2,none⟩) hlb).trans y2
   clear hc y0 y1 y2
   have p1:(0:Int)<=(k:Int):=by omega
   have p2:(k:Int) < (L.length:Int):=by omega
   have HT:=Lib.hid (jTake L hlt)
   have hl:=HLn.out k
   rw [List.length_take] at hl
   have hl2:=deedL_le (ZD L k)
   have HBk:=Lib.hid (HB.out k hlt)
   obtain ⟨⟨dk,da,db⟩,hd⟩:∃ d,ZD L k=d:=⟨_,rfl⟩
   rw [hd] at d0 d1 d2 hl2 HBk HT
   have HC:=Lib.hid (fun W=>c_iDeedText dk da db W)
   have hbA:Below wr.heap.size wr (wr.alloc (.cells #[.int .i64 dk,.int .i64 da,.int .i64 db] 39)):=(Below.refl _ wr).alloc (Nat.le_refl _) _
   clear hd
   by_cases he:deedL ⟨dk,da,db⟩=[]
   ·have hq:((bs (deedL ⟨dk,da,db⟩)).toList == [])=true:=by rw [bs_list,he];rfl
    have hq1:(bs (deedL ⟨dk,da,db⟩)).toList=[]:=by rw [bs_list,he]
    have hq2:(bs (deedL ⟨dk,da,db⟩)).toList.isEmpty=true:=by rw [hq1];rfl
    have HV:=Lib.hid (HBk.out he)
    clear he hl hl2
    go_wp2_with fail
    refine (HC.out _).mono ?_
    rintro e w5 ⟨rfl,hb5⟩
    go_wp2_with fail
    go_ret
    exact ⟨by rw [HV.out];rfl,hb.trans ((hbA.trans (hb5.mono hbA.size)).mono hsz)⟩
   ·have hq1:¬ (bs (deedL ⟨dk,da,db⟩)).toList=[]:=by rw [bs_list];exact he
    have hq2:(bs (deedL ⟨dk,da,db⟩)).toList.isEmpty=false:=by simpa using hq1
    have HJ:=Lib.hid (show jOk (L.take (k+1))=true by rw [HT.out,jOk_snoc,hok.out];simpa using he)
    have HS:=Lib.hid (show Lib.byteCells (jTo (L.take k))++Lib.byteCells (deedL ⟨dk,da,db⟩)++[.int .u8 10]=Lib.byteCells (jTo (L.take (k+1))) by
     rw [HT.out,jTo_snoc,bytes_app,show ([.int .u8 10]:List Value)=Lib.byteCells [10] from rfl,bytes_app])
    have HWs:=Lib.hid (fun (W:World) (hW:BuilderIs W w.heap.size w.heap.size (jTo (L.take k))) (hz:w.heap.size<=W.heap.size)=>c_writeString w.heap.size w.heap.size (Lib.byteCells (jTo (L.take k))) (bs (deedL ⟨dk,da,db⟩)) W hW (by rw [bytes_len,bs_size];omega) hz)
    have HWb:=Lib.hid (fun (W:World) (hW:Lib.IsBuilder 91 5 w.heap.size w.heap.size (Lib.byteCells (jTo (L.take k))++Lib.byteCells (deedL ⟨dk,da,db⟩)) W) (hz:w.heap.size<=W.heap.size)=>c_writeByte w.heap.size w.heap.size (Lib.byteCells (jTo (L.take k))++Lib.byteCells (deedL ⟨dk,da,db⟩)) 10 W hW (by rw [bytes_app,bytes_len,List.length_append];omega) hz)
    clear he hl hl2 HBk HT
    go_wp2_with fail
    refine (HC.out _).mono ?_
    rintro e w5 ⟨rfl,hb5⟩
    have hx5:=hbA.trans (hb5.mono hbA.size)
    have bl5:=builder_below bl hx5 (Nat.le_refl _)
    have hw5:=hb.trans (hx5.mono hsz)
    clear d0 d1 d2 bl hb5
    go_wp2_with fail
    refine (HWs.out _ bl5 hw5.size).mono ?_
    rintro e w6 ⟨rfl,bl6,hb6⟩
    have hw6:=hw5.trans hb6
    go_wp2_with fail
    refine (HWb.out _ (.inr bl6) hw6.size).mono ?_
    rintro e w7 ⟨rfl,bl7,hb7⟩
    rw [HS.out] at bl7
    go_wp2_with fail
    go_roundw
    case rel=>exact ⟨k+1,by omega,by go_num,HJ,.inr bl7,hw6.trans hb7⟩
    case measure=>simp [intOf];omega
  ·have p2:¬ (k:Int) < (L.length:Int):=by omega
   obtain rfl:k=L.length:=by omega
   rw [List.take_length] at hok bl
   have HV:=Lib.hid (show journalL L=jTo L from if_pos hok.out)
   have HC:=Lib.hid (Tryz.Builder_String_any w.heap.size w.heap.size (jTo L) wr bl hsz)
   clear bl
   go_wp2_with fail
   refine HC.out.mono ?_
   rintro e w5 ⟨rfl,hb5⟩
   go_wp2_with fail
   go_ret
   exact ⟨by rw [HV.out];rfl,hb.trans hb5⟩
theorem c_cut10 (t:List UInt8) (ht:t.length<=100000000) (w:World) (hV:LV w w.heap.size) :
  Calls Tryz.prog 43 #[.string (bs t),.string ⟨#[10]⟩] w fun e w'=>e=.returned (.tuple #[.string (bs (Lib.cut t [10]).1),.string (bs (Lib.cut t [10]).2.1),.bool (Lib.cut t [10]).2.2])∧Below w.heap.size w w':=by
 obtain ⟨-,m,hm⟩:=hV.2.2
 refine (Tryz.strings_Cut (bs t) ⟨#[10]⟩ m w (by rw [bs_size];omega) hm).mono ?_
 rintro e w' ⟨he,n,hw⟩
 exact ⟨he,by rw [hw];exact Below.drewN (Below.refl _ w) n⟩
theorem drop_bs (l:List UInt8) (n:Nat):(bs l).extract n (bs l).size=bs (l.drop n):=by
 apply ByteArray.ext
 apply Array.ext'
 rw [Lib.extract_to_end]
 rfl
theorem c_iReadJournal (s:ByteArray) (hs:s.size<=100000000) (w:World) (hV:LV w w.heap.size) :
  Calls Tryz.prog 9 #[.string s] w fun e w'=>∃ v,e=.returned (.tuple #[v,.int .i64 ((jS s.data.toList).n:Int)])∧EO w' w.heap.size v (jS s.data.toList).ds∧Below w.heap.size w w':=by
 obtain ⟨l,rfl⟩:∃ l,s=bs l:=⟨s.data.toList,rfl⟩
 have hl:l.length<=100000000:=by rw [bs_size] at hs;exact hs
 show Calls Tryz.prog 9 #[.string (bs l)] w fun e w'=>∃ v,e=.returned (.tuple #[v,.int .i64 ((jS l).n:Int)])∧EO w' w.heap.size v (jS l).ds∧Below w.heap.size w w'
 have HSz:=Lib.hid (bs_size l)
 have HV:=Lib.hid hV
 have HCut:=Lib.hid (fun (n:Nat) (W:World) (hb:Below w.heap.size w W)=>c_cut10 (l.drop n) (by rw [List.length_drop];omega) W (hV.at hb))
 have HRd:=Lib.hid (fun (x:List UInt8) (hx:x.length<=100000000) (W:World) (hb:Below w.heap.size w W)=>c_iReadDeed x hx W (hV.at hb))
 clear hs hV
 go_enter Tryz.func9,Tryz.ntmps9
 go_wp2_with fail
 go_loopw [4,5] (fun v i wr=>∃ (n:Nat) (ds:List DV),n<=l.length∧i=.int .i64 (n:Int)∧Hid (jS (l.take n)=⟨false,ds,n,[]⟩)∧EO wr w.heap.size v ds∧ds.length<=n∧Below w.heap.size w wr) (fun _ i _=>l.length - (intOf i).toNat)
 case atStart=>exact ⟨0,[],by omega,rfl,rfl,EO.nil _ _,by simp,Below.refl _ _⟩
 case round =>
  obtain ⟨n,ds,hn,rfl,hj,own,hdn,hb⟩:=hrel
  have p1:(0:Int)<=(n:Int):=by omega
  have p2:(n:Int)<=((bs l).size:Int):=by rw [HSz.out];omega
  have p3:n<=(bs l).size:=by rw [HSz.out];omega
  have hx:=drop_bs l n
  have HC:=Lib.hid (HCut.out n wr hb)
  have hdl:(l.drop n).length=l.length - n:=List.length_drop
  rcases split_at 10 (l.drop n) with hno | ⟨a,b,hab,ha⟩
  ·have HT:=Lib.hid (cutC_none hno)
   have HE:=Lib.hid (jline_end hj.out hno)
   have HR:=Lib.hid (fun W hb=>HRd.out (l.drop n) (by omega) W hb)
   clear hno
   go_wp2_with fail
   refine HC.out.mono ?_
   rintro e w1 ⟨rfl,hb1⟩
   rw [HT.out]
   have hw1:=hb.trans (hb1.mono hb.size)
   have HO1:=Lib.hid (own.below hb1 (Nat.le_refl _))
   clear own hx hb1
   go_wp2_with fail
   refine (HR.out _ hw1).mono ?_
   rintro e w2 ⟨rfl,hb2⟩
   have hz1:=hw1.size
   obtain ⟨k,a,b,q,hrv⟩:∃ k a b q,readV (readD (l.drop n))=.tuple #[.agg #[.int .i64 k,.int .i64 a,.int .i64 b],.bool q]:=by
    cases readD (l.drop n) with
    | none=>exact ⟨_,_,_,_,rfl⟩
    | some d=>exact ⟨_,_,_,_,rfl⟩
   rw [hrv]
   clear hrv
   have hx3:Below w1.heap.size w1 (w2.alloc (.cells #[.int .i64 k,.int .i64 a,.int .i64 b] 39)):=hb2.alloc hb2.size _
   have HF:=Lib.hid (HO1.out.below hx3 (Nat.le_refl _))
   have HW:=Lib.hid (hw1.trans (hx3.mono hz1))
   clear hb2 hx3 hw1
   go_wp2_with fail
   go_ret2
   exact ⟨_,by rw [HE.out.2];rfl,by rw [HE.out.1];exact HF.out,HW.out⟩
  ·have HT:=Lib.hid (show Lib.cut (l.drop n) [10]=(a,b,true) by rw [hab];exact cutC_at b ha)
   have hla:n+a.length+1<=l.length:=by
    have h1:(l.drop n).length=a.length+1+b.length:=by rw [hab];simp;omega
    omega
   have HR:=Lib.hid (fun W hb=>HRd.out a (by omega) W hb)
   have HSa:=Lib.hid (bs_size a)
   cases hrd:readD a with
   | none =>
    have HE:=Lib.hid (jline_bad hj.out hab ha hrd)
    have HRv:=Lib.hid (show readV (readD a)=.tuple #[.agg #[.int .i64 0,.int .i64 0,.int .i64 0],.bool false] by rw [hrd];rfl)
    clear hab ha hrd hdl
    go_wp2_with fail
    refine HC.out.mono ?_
    rintro e w1 ⟨rfl,hb1⟩
    rw [HT.out]
    have hw1:=hb.trans (hb1.mono hb.size)
    have HO1:=Lib.hid (own.below hb1 (Nat.le_refl _))
    clear own hx hb1
    go_wp2_with fail
    refine (HR.out _ hw1).mono ?_
    rintro e w2 ⟨rfl,hb2⟩
    have hz1:=hw1.size
    rw [HRv.out]
    have hx3:Below w1.heap.size w1 (w2.alloc (.cells #[.int .i64 0,.int .i64 0,.int .i64 0] 39)):=hb2.alloc hb2.size _
    have HF:=Lib.hid (HO1.out.below hx3 (Nat.le_refl _))
    have HW:=Lib.hid (hw1.trans (hx3.mono hz1))
    clear hb2 hx3 hw1
    go_wp2_with fail
    go_ret2
    exact ⟨_,by rw [HE.out.2];rfl,by rw [HE.out.1];exact HF.out,HW.out⟩
   | some d =>
    obtain ⟨dk,da,db⟩:=d
    have HE:=Lib.hid (jline_ok hj.out hab ha hrd hn)
    have HRv:=Lib.hid (show readV (readD a)=.tuple #[.agg #[.int .i64 dk,.int .i64 da,.int .i64 db],.bool true] by rw [hrd];rfl)
    have q1:IntKind.i64.wrap (((bs a).size:Int)+1)=((bs a).size:Int)+1:=IntWalk.i64_in _ (by rw [HSa.out];omega)
    have q2:IntKind.i64.wrap ((n:Int)+(((bs a).size:Int)+1))=(n:Int)+(((bs a).size:Int)+1):=IntWalk.i64_in _ (by rw [HSa.out];omega)
    clear hab ha hrd hdl
    go_wp2_with fail
    refine HC.out.mono ?_
    rintro e w1 ⟨rfl,hb1⟩
    rw [HT.out]
    have hw1:=hb.trans (hb1.mono hb.size)
    have HO1:=Lib.hid (own.below hb1 (Nat.le_refl _))
    clear own hx hb1
    go_wp2_with fail
    refine (HR.out _ hw1).mono ?_
    rintro e w2 ⟨rfl,hb2⟩
    have hz1:=hw1.size
    have hz2:=hb2.size
    rw [HRv.out]
    have hx3:Below w1.heap.size w1 (w2.alloc (.cells #[.int .i64 dk,.int .i64 da,.int .i64 db] 39)):=hb2.alloc hb2.size _
    have HF:=Lib.hid (HO1.out.below hx3 (Nat.le_refl _))
    have HW:=Lib.hid (hw1.trans (hx3.mono hz1))
    have HL:=Lib.hid (show ds.length<=1000000000000 by omega)
    have hzw:w.heap.size<=w2.heap.size:=by omega
    clear hb2 hx3 hw1
    go_wp2_with (refine app_E (by rfl) (.tmp 32) (.tmp 34) (by rfl) w.heap.size u4 ds dk da db (w2.alloc (.cells #[.int .i64 dk,.int .i64 da,.int .i64 db] 39)).heap.size (by rfl) (HF.out.alloc _) ?_ ?_ HL.out ?_ ?_;(simp;rfl);exact (heap_alloc_new _ _);(simp;omega);intro g cap w6 o6 hgr6 hb6)
    have HW6:=Lib.hid (HW.out.trans ((((Below.refl _ (w2.alloc (.cells #[.int .i64 dk,.int .i64 da,.int .i64 db] 39))).alloc (show w.heap.size<=(w2.alloc (.cells #[.int .i64 dk,.int .i64 da,.int .i64 db] 39)).heap.size by simp;omega) _)).trans hb6))
    have HO6:=Lib.hid o6
    have HZ:=Lib.hid (show (n:Int)+(((bs a).size:Int)+1)=((n+a.length+1:Nat):Int) by rw [HSa.out];omega)
    clear o6 hgr6 hb6
    go_wp2_with fail
    go_roundw
    case rel=>exact ⟨n+a.length+1,ds++[⟨dk,da,db⟩],hla,by rw [HZ.out],HE,by simpa using HO6.out,by simp;omega,HW6.out⟩
    case measure=>(simp [intOf];rw [HSa.out];omega)
end
section
attribute [local go_sem ↓] Go.wp_at_zero Go.wp_at_succ
theorem c_growNil (n:Nat) (hn:n<=1000000) (w:World) :
  Calls Tryz.prog 197 #[.slice none 0 0,.int .i64 (n:Int)] w fun e w'=>∃ v,e=.returned v∧IO w' w.heap.size v []∧Below w.heap.size w w':=by
 obtain ⟨i0,hi,hz0,hz1,hz2⟩:=info_parts infoI
 by_cases h0:0 < n
 ·have p0:¬ (n:Int) < 0:=by omega
  have p1:(0:Int) < (n:Int):=by omega
  have hr:=fun ty=>Lib.run_append_nil_zeros (P:=Tryz.prog) w 85 3 ty 3 i0 _ .i64 .i64 Tryz.underlying85 Tryz.underlying3 hi hz0 n h0 (by rw [hz1];omega) (by omega) (by rw [hz2];omega)
  have hge:=grownCap_ge w n 0 3
  have hcm:=grownCap_le_maxLen w n 0 3 (by simp only [maxLen];omega)
  have q1:IntKind.i64.wrap (n:Int)=(n:Int):=IntWalk.i64_in _ (by omega)
  have ho:=World.ownsRow_made (base:=w.heap.size) (e:=3) (size:=1) w.drew (Builtin.zeroCells (Value.int .i64 0).cells n++Builtin.zeroCells (Value.int .i64 0).cells (grownCap w n 0 3 - n)) (grownCap w n 0 3) (Nat.le_refl _) hcm (by simp only [Array.size_append,size_zeroCells];simp [Value.cells];omega)
  have HO:=Lib.hid ho
  have hz:=hz2
  clear ho
  generalize hcp:grownCap w n 0 3=cp at *
  go_enter Tryz.func197,Tryz.ntmps197
  go_wp2_with (refine Lib.wpList_append_run w (by rfl) (.tmp 20) (.tmp 21) 85 3 (by rfl) (.slice none 0 0) (.int .i64 (n:Int)) (by rfl) (by rfl) _ _ (hr _) ?_)
  go_ret
  exact ⟨_,rfl,HO.out,(Below.refl _ w).drew.alloc (Nat.le_refl _) _⟩
 ·obtain rfl:n=0:=by omega
  go_enter Tryz.func197,Tryz.ntmps197
  go_wp2_with fail
  go_ret
  exact ⟨_,rfl,IO.nil _ _,Below.refl _ _⟩
def ffl (xss:List (List Int)) (k:Nat):List Int:=(xss.take k).flatten
def row12 (xss:List (List Int)) (k:Nat):List Int:=xss.getD k []
theorem ffl_all (xss:List (List Int)):ffl xss xss.length=xss.flatten:=by rw [ffl,List.take_length]
theorem ffl_succ {xss:List (List Int)} {k:Nat} (h:k < xss.length):ffl xss (k+1)=ffl xss k++row12 xss k:=by
 rw [ffl,ffl,row12,<- List.take_append_getElem h,List.flatten_append];simp [h]
theorem ffl_le (xss:List (List Int)) (k:Nat):(ffl xss k).length<=xss.flatten.length:=by
 have e:xss.flatten=(xss.take k).flatten++(xss.drop k).flatten:=by rw [<- List.flatten_append,List.take_append_drop]
 rw [e,List.length_append,ffl];omega
def Iss (w:World) (B:Nat) (A:Option Addr) (xss:List (List Int)):Prop :=
 0 < xss.length->∃ g off,A=some ⟨g,off,none⟩∧g < B∧∀ k,k < xss.length->∃ Ak ck,w.cell? ⟨g,off+k,none⟩=some (.slice Ak (row12 xss k).length ck)∧Is w B Ak (row12 xss k)
theorem IOO.iss {w:World} {base:Nat} {v:Value} {xss:List (List Int)} {vs:List Value} (h:IOO w base v xss vs):∃ A c,v=.slice A xss.length c∧Iss w w.heap.size A xss:=by
 obtain ⟨A,c,e,-,-,hc⟩:=h.form
 refine ⟨A,c,e,fun hp=>?_⟩
 obtain ⟨g,rfl,-,hg,hcc,-⟩:=hc hp
 refine ⟨g,0,rfl,hg,fun k hk=>?_⟩
 obtain ⟨Ak,ck,e1,-,-,hI⟩:=(h.inner k hk).form
 exact ⟨Ak,ck,by rw [Nat.zero_add,hcc k hk,e1];rfl,hI⟩
theorem c_concat (xss:List (List Int)) (A:Option Addr) (c:Nat) (w:World) (hA:Iss w w.heap.size A xss) (hn:xss.length<=1000000) (hl:xss.flatten.length<=1000000) :
  Calls Tryz.prog 167 #[.slice A xss.length c] w fun e w'=>∃ v,e=.returned v∧IO w' w.heap.size v xss.flatten∧Below w.heap.size w w':=by
 have HA:=Lib.hid hA
 have HL:=Lib.hid (fun k=>show (ffl xss k).length<=1000000 by have:=ffl_le xss k;omega)
 have HT:=Lib.hid (fun k (hk:k < xss.length)=>ffl_succ hk)
 have HG:=Lib.hid (fun W=>c_growNil (ffl xss xss.length).length (by rw [ffl_all];exact hl) W)
 have HAll:=Lib.hid (ffl_all xss)
 clear hA hl
 go_enter Tryz.func167,Tryz.ntmps167
 go_wp2_with fail
 go_loopw [3,11] (fun s i wr=>∃ k:Nat,k<=xss.length∧i=.int .i64 (k:Int)∧s=.int .i64 ((ffl xss k).length:Int)∧Below w.heap.size w wr) (fun _ i _=>xss.length - (intOf i).toNat)
 case atStart=>exact ⟨0,by omega,rfl,rfl,Below.refl _ _⟩
 case round =>
  obtain ⟨k,hk,rfl,rfl,hb0⟩:=hrel
  by_cases hlt:k < xss.length
  ·obtain ⟨g,off,rfl,hg,hc⟩:=HA.out (by omega)
   obtain ⟨Ak,ck,e0,-⟩:=hc k hlt
   have e1:=(hb0.cell (p:=⟨g,off+k,none⟩) hg).trans e0
   clear e0
   have p1:(0:Int)<=(k:Int):=by omega
   have p2:(k:Int) < (xss.length:Int):=by omega
   have h1:=HL.out (k+1)
   have h3:(ffl xss (k+1)).length=(ffl xss k).length+(row12 xss k).length:=by rw [HT.out k hlt,List.length_append]
   obtain ⟨m,hm⟩:∃ m,(row12 xss k).length=m:=⟨_,rfl⟩
   obtain ⟨q,hq⟩:∃ q,(ffl xss k).length=q:=⟨_,rfl⟩
   rw [hm] at e1
   have HQ:=Lib.hid (show (ffl xss (k+1)).length=q+m by rw [h3,hm,hq])
   have q1:IntKind.i64.wrap ((q:Int)+(m:Int))=(q:Int)+(m:Int):=IntWalk.i64_in _ (by omega)
   have q2:¬ ((q:Int)+(m:Int) < 0):=by omega
   rw [hq]
   clear h1 h3 hm hq hc
   go_wp2_with fail
   go_roundw
   case rel=>exact ⟨k+1,by omega,by go_num,by rw [HQ.out];go_num,hb0⟩
   case measure=>simp [intOf];omega
  ·have p2:¬ (k:Int) < (xss.length:Int):=by omega
   obtain rfl:k=xss.length:=by omega
   go_wp2_with fail
   refine (HG.out _).mono ?_
   rintro e w1 ⟨v1,rfl,o1,hb1⟩
   have hx1:=hb0.trans (hb1.mono hb0.size)
   have o2:=o1.mono hb0.size
   clear o1 hb1
   go_wp2_with fail
   generalize wr=wo at *
   clear hb0
   go_loopw [6,27] (fun s i wr=>∃ k:Nat,k<=xss.length∧i=.int .i64 (k:Int)∧IO wr w.heap.size s (ffl xss k)∧Below w.heap.size w wr) (fun _ i _=>xss.length - (intOf i).toNat)
   case atStart=>exact ⟨0,by omega,rfl,o2,hx1⟩
   case round =>
    clear o2 hx1
    obtain ⟨k,hk,rfl,own,hb⟩:=hrel
    have hsz:=hb.size
    by_cases hlt:k < xss.length
    ·obtain ⟨g,off,rfl,hg,hc⟩:=HA.out (by omega)
     obtain ⟨Ak,ck,e1,hI⟩:=hc k hlt
     have d1:=(hb.cell (p:=⟨g,off+k,none⟩) hg).trans e1
     have hI2:=Lib.hid (hI.below hb)
     have p1:(0:Int)<=(k:Int):=by omega
     have p3:(k:Int) < (xss.length:Int):=by omega
     have h1:=HL.out (k+1)
     have h3:(ffl xss (k+1)).length=(ffl xss k).length+(row12 xss k).length:=by rw [HT.out k hlt,List.length_append]
     have HT2:=Lib.hid (HT.out k hlt)
     have HLe:=Lib.hid (show (ffl xss k).length+(row12 xss k).length<=1000000000000 by omega)
     have HOw:=Lib.hid own
     clear e1 hI hc h1 h3 own
     go_wp2_with (refine app_II (by rfl) (.tmp 31) (.tmp 32) (by rfl) w.heap.size u6 (ffl xss k) (row12 xss k) Ak ck w.heap.size (by rfl) HOw.out (by rfl) hI2.out HLe.out hsz ?_;intro G6 c6 w6 o6 hgr6 hb6)
     go_roundw
     case rel=>exact ⟨k+1,by omega,by go_num,by rw [HT2.out];exact o6,hb.trans hb6⟩
     case measure=>simp [intOf];omega
    ·have p3:¬ (k:Int) < (xss.length:Int):=by omega
     obtain rfl:k=xss.length:=by omega
     go_wp2_with fail
     go_ret
     exact ⟨_,rfl,by rw [<- HAll.out];exact own,hb⟩
theorem map_bs (l:List (List UInt8)):(l.map bs).map (·.data.toList)=l:=by rw [List.map_map];exact List.map_id _
theorem c_join (l:List (List UInt8)) (bk cc:Nat) (W:World) (hS:Ss W W.heap.size (some ⟨bk,0,none⟩) l) (h0:0 < l.length) (hcc:l.length<=cc) (hn:l.length<=1000000) (hl:(Lib.join l [44]).length<=1000000000) :
  Calls Tryz.prog 190 #[.slice (some ⟨bk,0,none⟩) l.length cc,.string ⟨#[44]⟩] W fun e w'=>e=.returned (.string (bs (Lib.join l [44])))∧Below W.heap.size W w':=by
 obtain ⟨b',off',e1,hlt,hc⟩:=hS h0
 have hb:b'=bk∧off'=0:=by injection e1 with e2;injection e2 with e3 e4;exact ⟨e3.symm,e4.symm⟩
 obtain ⟨rfl,rfl⟩:=hb
 have hmm:(l.map bs).length=l.length:=List.length_map _
 have hcells:∀ (j:Nat) x,(l.map bs)[j]?=some x->W.cell? ⟨b',0+j,none⟩=some (.string x):=fun j x hj=>by
  have hjl:j < l.length:=by have:=(List.getElem?_eq_some_iff.1 hj).1;rwa [List.length_map] at this
  rw [hc j hjl]
  rw [List.getElem?_map,List.getElem?_eq_getElem hjl] at hj
  have hx:bs l[j]=x:=by simpa using hj
  rw [<- hx]
  simp [ZS,hjl]
 have hlen:(Lib.join ((l.map bs).map (·.data.toList)) (⟨#[44]⟩:ByteArray).data.toList).length<=140737488355328:=by
  rw [map_bs]
  exact Nat.le_trans hl (by decide)
 have K:=Tryz.strings_Join b' 0 cc (l.map bs) ⟨#[44]⟩ W hcells hlt (by rw [hmm];omega) (by rw [hmm];exact hcc) hlen
 rw [hmm,map_bs] at K
 exact K
theorem c_numbersText (xs:List Int) (A:Option Addr) (c:Nat) (w:World) (hI:Is w w.heap.size A xs) (hs:smallL xs) (hlow:lowL xs) (hV:LV w w.heap.size) :
  Calls Tryz.prog 162 #[.slice A xs.length c] w fun e w'=>e=.returned (.string (bs (rowText xs)))∧Below w.heap.size w w':=by
 by_cases h0:0 < xs.length
 ·have q0:((xs.length:Int) == 0)=false:=beq_eq_false_iff_ne.2 (by omega)
  have hn:=hs.1
  have HI:=Lib.hid hI
  have HSm:=Lib.hid hs.2
  have HLo:=Lib.hid hlow
  have HIt:=Lib.hid (fun (n:Nat) (hn:n<=1000000000) (W:World) (hb:Below w.heap.size w W)=>c_itoa n W (by omega) (hV.at hb))
  have HT:=Lib.hid (fun k (hk:k < xs.length)=>txts_take hk)
  have HAll:=Lib.hid (row_all h0)
  have HLen:=Lib.hid (fun k=>rowTo_len hs.2 k)
  have hRl:(rowText xs).length<=12 * xs.length:=by
   rw [rowText,if_neg (by omega)];exact rowTo_len hs.2 _ (Nat.le_refl _)
  have HRl:=Lib.hid hRl
  have hml:(xs.map txtN).length=xs.length:=List.length_map _
  have HJ:=Lib.hid (fun (bk cc:Nat) (W:World) (hSs:Ss W W.heap.size (some ⟨bk,0,none⟩) (xs.map txtN)) (hcc:xs.length<=cc)=>show Calls Tryz.prog 190 #[.slice (some ⟨bk,0,none⟩) xs.length cc,.string ⟨#[44]⟩] W fun e w'=>e=.returned (.string (bs (rowText xs)))∧Below W.heap.size W w' from by
   have K:=c_join (xs.map txtN) bk cc W hSs (by rw [hml];exact h0) (by rw [hml];exact hcc) (by rw [hml];exact hn) (by rw [<- HAll.out];omega)
   rwa [hml,<- HAll.out] at K)
  clear hml
  clear hI hlow hV hs hRl
  go_enter Tryz.func162,Tryz.ntmps162
  go_wp2_with fail
  go_loopw [3,11] (fun s i wr=>∃ k:Nat,k<=xs.length∧i=.int .i64 (k:Int)∧SO wr w.heap.size s ((xs.take k).map txtN)∧Below w.heap.size w wr) (fun _ i _=>xs.length - (intOf i).toNat)
  case atStart=>exact ⟨0,by omega,rfl,SO.nil _ _,Below.refl _ _⟩
  case round =>
   obtain ⟨k,hk,rfl,own,hb⟩:=hrel
   have hsz:=hb.size
   by_cases hlt:k < xs.length
   ·obtain ⟨b,off,rfl,hlb,hc⟩:=HI.out (by omega)
    have d1:=(hb.cell (p:=⟨b,off+k,none⟩) hlb).trans (hc k hlt)
    have p1:(0:Int)<=(k:Int):=by omega
    have p2:(k:Int) < (xs.length:Int):=by omega
    have hT:=Lib.hid (HT.out k hlt)
    have hl:=HLo.out k hlt
    have hu:=HSm.out k hlt
    have hln:((xs.take k).map txtN).length=k:=by rw [List.length_map,List.length_take];omega
    have HLn:=Lib.hid hln
    clear hc hln
    generalize hz:Z xs k=z at *
    by_cases hz1:z=-1
    ·have e1:(z == -1)=true:=beq_iff_eq.2 hz1
     have HV:=Lib.hid (show txtN z=[46] by rw [txtN,if_pos (by omega)])
     have HOw:=Lib.hid own
     clear hz1 own
     go_wp2_with (refine app_S (by rfl) (.tmp 17) (.tmp 18) (by rfl) w.heap.size u3 ((xs.take k).map txtN) [46] wr.heap.size (by rfl) (HOw.out.alloc _) (by rfl) (heap_alloc_new _ _) (by rw [HLn.out];omega) (by simp;omega) ?_;intro g cap w6 o6 hgr6 hb6)
     rw [HLn.out] at o6
     go_roundw
     case rel=>exact ⟨k+1,by omega,by go_num,by rw [hT.out,HV.out];exact o6,hb.trans (((Below.refl _ wr).alloc (by omega) _).trans hb6)⟩
     case measure=>simp [intOf];omega
    ·have e1:(z == -1)=false:=beq_eq_false_iff_ne.2 hz1
     have HV:=Lib.hid (show txtN z=numL z.toNat by rw [txtN,if_neg (by omega)])
     have HOw:=Lib.hid own
     have HC:=Lib.hid (show Calls Tryz.prog 56 #[.int .i64 z] wr fun e w'=>e=.returned (.string (bs (numL z.toNat)))∧Below wr.heap.size wr w' from by
      have K:=HIt.out z.toNat (by omega) wr hb
      rwa [show ((z.toNat:Nat):Int)=z by omega] at K)
     clear hz1 own
     go_wp2_with fail
     refine HC.out.mono ?_
     rintro e w5 ⟨rfl,hb5⟩
     have hs5:=hb5.size
     have o5:=HOw.out.below hb5 (Nat.le_refl _)
     have hw5:=hb.trans (hb5.mono hsz)
     go_wp2_with (refine app_S (by rfl) (.tmp 20) (.tmp 23) (by rfl) w.heap.size u3 ((xs.take k).map txtN) (numL z.toNat) w5.heap.size (by rfl) (o5.alloc _) (by rfl) (heap_alloc_new _ _) (by rw [HLn.out];omega) (by simp;omega) ?_;intro g cap w6 o6 hgr6 hb6)
     rw [HLn.out] at o6
     go_roundw
     case rel=>exact ⟨k+1,by omega,by go_num,by rw [hT.out,HV.out];exact o6,hw5.trans (((Below.refl _ w5).alloc (by omega) _).trans hb6)⟩
     case measure=>simp [intOf];omega
   ·have p2:¬ (k:Int) < (xs.length:Int):=by omega
    obtain rfl:k=xs.length:=by omega
    rw [List.take_length] at own
    obtain ⟨A5,c5,e5,hc5,hA5,hS5⟩:=own.formE
    have hml:(xs.map txtN).length=xs.length:=List.length_map _
    rw [hml] at e5 hc5
    subst e5
    rcases hA5 with ⟨-,h00⟩ | ⟨g,rfl⟩
    ·omega
    ·have HC:=Lib.hid (HJ.out g c5 wr hS5 hc5)
     clear own hS5 hml
     go_wp2_with fail
     refine HC.out.mono ?_
     rintro e w5 ⟨rfl,hb5⟩
     go_wp2_with fail
     go_ret
     exact ⟨rfl,hb.trans (hb5.mono hsz)⟩
 ·have q1:xs.length=0:=by omega
  have q0:((xs.length:Int) == 0)=true:=beq_iff_eq.2 (by omega)
  have HV:=Lib.hid (show rowText xs=wNone from if_pos q1)
  clear q1
  go_enter Tryz.func162,Tryz.ntmps162
  go_wp2_with fail
  go_ret
  exact ⟨by rw [HV.out];rfl,Below.refl _ _⟩
theorem c_numberText (x:Int) (w:World) (h1:-1<=x) (h2:x<=1000000000) (hV:LV w w.heap.size) :
  Calls Tryz.prog 169 #[.int .i64 x] w fun e w'=>e=.returned (.string (bs (numOr x)))∧Below w.heap.size w w':=by
 by_cases hz:x=-1
 ·have e1:(x == -1)=true:=beq_iff_eq.2 hz
  have HV:=Lib.hid (show numOr x=wNone from if_pos (by omega))
  clear hz
  go_enter Tryz.func169,Tryz.ntmps169
  go_wp2_with fail
  go_ret
  exact ⟨by rw [HV.out];rfl,Below.refl _ _⟩
 ·have e1:(x == -1)=false:=beq_eq_false_iff_ne.2 hz
  have HV:=Lib.hid (show numOr x=numL x.toNat from if_neg (by omega))
  have HC:=Lib.hid (show Calls Tryz.prog 56 #[.int .i64 x] w fun e w'=>e=.returned (.string (bs (numL x.toNat)))∧Below w.heap.size w w' from by
   have K:=c_itoa x.toNat w (by omega) hV
   rwa [show ((x.toNat:Nat):Int)=x by omega] at K)
  clear hz
  go_enter Tryz.func169,Tryz.ntmps169
  go_wp2_with fail
  refine HC.out.mono ?_
  rintro e w5 ⟨rfl,hb5⟩
  go_wp2_with fail
  go_ret
  exact ⟨by rw [HV.out];rfl,hb5⟩
end
end Go.Proofs.YthpccmkagikhjaaGreatDoor

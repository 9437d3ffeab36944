import Derived.Test.YticccnkanihpnaaDoorQJournalText5
namespace Go.Proofs.YticccnkanihpnaaDoor
set_option linter.unusedVariables false
open Go.RowKit
attribute [local go_sem ↓] Go.wp_at_zero Go.wp_at_succ
theorem Z_vals (r:List (List UInt8)) (k:Nat):Z (valsN r) k=(valN (r.getD k []):Int):=by
 by_cases h:k < r.length
 ·simp [Z,valsN,h]
 ·simp [Z,valsN,h,valN]
theorem names_parts {r:List (List UInt8)} {n:Nat} (h:namesOk r n=true):r.length=n∧r.all dig2=true:=by simpa [namesOk] using h
theorem names_no {r:List (List UInt8)} {n:Nat} (h:namesOk r n=false):¬ (r.length=n∧r.all dig2=true):=by
 intro h2
 have:namesOk r n=true:=by simp [namesOk,h2.1,h2.2]
 rw [h] at this;cases this
theorem forms_ix0 (w:World):(Instr.index 66 (.agg #[.string ⟨#[99,111,109,101]⟩,.int .i64 2,.string ⟨#[103,111]⟩,.int .i64 0,.string ⟨#[110,101,101,100]⟩,.int .i64 1,.string ⟨#[108,97,116,101,114]⟩,.int .i64 1,.string ⟨#[98,97,99,107]⟩,.int .i64 0]) (.int .i64 0)).run Tryd.prog w=.ok (.agg #[.string ⟨#[99,111,109,101]⟩,.int .i64 2]) w:=by kernel_rfl
theorem forms_ix1 (w:World):(Instr.index 66 (.agg #[.string ⟨#[99,111,109,101]⟩,.int .i64 2,.string ⟨#[103,111]⟩,.int .i64 0,.string ⟨#[110,101,101,100]⟩,.int .i64 1,.string ⟨#[108,97,116,101,114]⟩,.int .i64 1,.string ⟨#[98,97,99,107]⟩,.int .i64 0]) (.int .i64 1)).run Tryd.prog w=.ok (.agg #[.string ⟨#[103,111]⟩,.int .i64 0]) w:=by kernel_rfl
theorem forms_ix2 (w:World):(Instr.index 66 (.agg #[.string ⟨#[99,111,109,101]⟩,.int .i64 2,.string ⟨#[103,111]⟩,.int .i64 0,.string ⟨#[110,101,101,100]⟩,.int .i64 1,.string ⟨#[108,97,116,101,114]⟩,.int .i64 1,.string ⟨#[98,97,99,107]⟩,.int .i64 0]) (.int .i64 2)).run Tryd.prog w=.ok (.agg #[.string ⟨#[110,101,101,100]⟩,.int .i64 1]) w:=by kernel_rfl
theorem forms_ix3 (w:World):(Instr.index 66 (.agg #[.string ⟨#[99,111,109,101]⟩,.int .i64 2,.string ⟨#[103,111]⟩,.int .i64 0,.string ⟨#[110,101,101,100]⟩,.int .i64 1,.string ⟨#[108,97,116,101,114]⟩,.int .i64 1,.string ⟨#[98,97,99,107]⟩,.int .i64 0]) (.int .i64 3)).run Tryd.prog w=.ok (.agg #[.string ⟨#[108,97,116,101,114]⟩,.int .i64 1]) w:=by kernel_rfl
theorem forms_ix4 (w:World):(Instr.index 66 (.agg #[.string ⟨#[99,111,109,101]⟩,.int .i64 2,.string ⟨#[103,111]⟩,.int .i64 0,.string ⟨#[110,101,101,100]⟩,.int .i64 1,.string ⟨#[108,97,116,101,114]⟩,.int .i64 1,.string ⟨#[98,97,99,107]⟩,.int .i64 0]) (.int .i64 4)).run Tryd.prog w=.ok (.agg #[.string ⟨#[98,97,99,107]⟩,.int .i64 0]) w:=by kernel_rfl
attribute [local go_sem ↓] forms_ix0 forms_ix1 forms_ix2 forms_ix3 forms_ix4
set_option maxRecDepth 8000 in
set_option maxHeartbeats 16000000 in
theorem c_iReadDeed (l:List UInt8) (hs:l.length<=100000000) (w:World) (hV:LV w w.heap.size) :
  Calls Tryd.prog 14 #[.string (bs l)] w fun e w'=>e=.returned (readV (readD l))∧Below w.heap.size w w':=by
 obtain ⟨x,r,hcut⟩:=cut_cons 32 l
 obtain ⟨n1,hn1⟩:∃ n1,(cutL 32 l).length=n1:=⟨_,rfl⟩
 have hrl:n1=r.length+1:=by rw [<- hn1,hcut];rfl
 have hrx:∀ k,k < r.length->(ZS r k).length<=100000000:=fun k hk=>by
  have h1:ZS r k ∈ cutL 32 l:=by rw [hcut,ZS_get hk];exact List.mem_cons_of_mem _ (List.getElem_mem hk)
  have:=cut_len _ h1;omega
 have hr1:r.length<=1000000000:=by
  have h2:(cutL 32 l).length<=l.length+1:=by have:=cutS_len 32 l;simp [cutL];omega
  omega
 obtain ⟨w0,hw0⟩:∃ w0,w.alloc (.cells #[.int .i64 0,.int .i64 0,.int .i64 0] 24)=w0:=⟨_,rfl⟩
 have hb0:Below w.heap.size w w0:=by rw [<- hw0];exact (Below.refl _ w).alloc (Nat.le_refl _) _
 have bR:w0.heap[w.heap.size]?=some (.cells #[.int .i64 0,.int .i64 0,.int .i64 0] 24 (0,0)):=by rw [<- hw0];exact heap_alloc_new _ _
 have hz0:w.heap.size < w0.heap.size:=by rw [<- hw0];simp
 have HSp:=Lib.hid (show Calls Tryd.prog 40 #[.string (bs l),.string ⟨#[32]⟩] w0 fun e w'=>e=.returned (.slice (some ⟨w0.heap.size,0,none⟩) n1 n1)∧Ss w' w'.heap.size (some ⟨w0.heap.size,0,none⟩) (x::r)∧Below w0.heap.size w0 w' from by
  have K:=c_split l hs w0 (hV.at hb0)
  rwa [hn1,hcut] at K)
 have HCut:=Lib.hid hcut
 have HV0:=Lib.hid (hV.at hb0)
 clear hcut hn1 hV
 by_cases h1:n1=1
 ·subst h1
  obtain rfl:r=[]:=List.eq_nil_of_length_eq_zero (by omega)
  clear hrl hr1
  go_enter Tryd.func14,Tryd.ntmps14
  go_wp2_with fail
  refine HSp.out.mono ?_
  rintro e w1 ⟨rfl,hS,hb1⟩
  obtain ⟨b',off',e1,hlw,hcw⟩:=hS (by simp)
  cases e1
  have HW0:=Lib.hid (show w1.cell? ⟨w0.heap.size,0,none⟩=some (.string (bs x)) from hcw 0 (by simp))
  have HNum:=Lib.hid (fun (n:Nat) (W:ByteArray) (W':World) (hb:Below w1.heap.size w1 W')=>show Calls Tryd.prog 42 #[.agg #[.string W,.int .i64 (n:Int)],.slice (some ⟨w0.heap.size,0,none⟩) 0 0] W' fun e w'=>(∃ v,e=.returned (.tuple #[v,.bool (namesOk [] n)])∧(namesOk [] n=true->IO w' W'.heap.size v (valsN [])))∧Below W'.heap.size W' w' from
   c_readNumbers [] W n (some ⟨w0.heap.size,0,none⟩) 0 W' (fun h=>by simp at h) (by simp) (fun k hk=>by simp at hk) (HV0.out.at (hb1.trans (hb.mono hb1.size))))
  clear hcw hS hw0
  have hz1:=hb1.size
  obtain ⟨r,hr⟩:∃ r:List (List UInt8),r=[]:=⟨_,rfl⟩
  rw [<- hr] at HNum HCut
  clear hr
  go_wp2_with fail
  refine (c_deedForms _).mono ?_
  rintro e w2 ⟨rfl,hb2⟩
  have hz2:=hb2.size
  go_wp2_with fail
  go_loopw [12] (fun i wr=>∃ k:Nat,k<=5∧i=.int .i64 (k:Int)∧Hid (∀ j,j < k->x≠wordJ j)∧Below w2.heap.size w2 wr) (fun i _=>5 - (intOf i).toNat)
  case atStart=>exact ⟨0,by omega,rfl,Lib.hid (fun j hj=>by omega),Below.refl _ _⟩
  case round =>
   obtain ⟨k,hk,rfl,HN,hb⟩:=hrel
   have hbx:Below w1.heap.size w1 wr:=hb2.trans (hb.mono hz2)
   by_cases h5:k < 5
   ·have hk5:k=0∨k=1∨k=2∨k=3∨k=4:=by omega
    rcases hk5 with rfl | rfl | rfl | rfl | rfl
    ·have HNk:=Lib.hid (fun (W':World) (hb:Below w1.heap.size w1 W')=>show Calls Tryd.prog 42 #[.agg #[.string ⟨#[99,111,109,101]⟩,.int .i64 2],.slice (some ⟨w0.heap.size,0,none⟩) 0 0] W' fun e w'=>(∃ v,e=.returned (.tuple #[v,.bool (namesOk r 2)])∧(namesOk r 2=true->IO w' W'.heap.size v (valsN r)))∧Below W'.heap.size W' w' from HNum.out 2 ⟨#[99,111,109,101]⟩ W' hb)
     by_cases hx:x=wordJ 0
     ·have hne:((bs x).toList == [99,111,109,101])=true:=by rw [bs_list,hx];rfl
      have HC:=Lib.hid (show cutL 32 l=wordJ 0::r by rw [HCut.out,hx])
      clear hx
      go_wp2_with fail
      obtain ⟨w5,hw5⟩:∃ w5,wr.alloc (.cells #[.string ⟨#[99,111,109,101]⟩,.int .i64 2] 54)=w5:=⟨_,rfl⟩
      have hb5:Below wr.heap.size wr w5:=by rw [<- hw5];exact (Below.refl _ wr).alloc (Nat.le_refl _) _
      have b5:w5.heap[wr.heap.size]?=some (.cells #[.string ⟨#[99,111,109,101]⟩,.int .i64 2] 54 (0,0)):=by rw [<- hw5];exact heap_alloc_new _ _
      have hz5:wr.heap.size < w5.heap.size:=by rw [<- hw5];simp
      rw [hw5]
      have hx5:=hbx.trans (hb5.mono hbx.size)
      have g0:=cell_of_row _ wr.heap.size 0 _ _ _ b5
      have g1:=cell_of_row _ wr.heap.size 1 _ _ _ b5
      have d0:=(hx5.cell (p:=⟨w0.heap.size,0,none⟩) hlw).trans HW0.out
      go_quiet (fail)
      have HG:=Lib.hid (fun (W':World) (hb:Below w5.heap.size w5 W')=>show W'.cell? ⟨wr.heap.size,0,none⟩=some (.string ⟨#[99,111,109,101]⟩)∧W'.cell? ⟨wr.heap.size,1,none⟩=some (.int .i64 2) from ⟨(hb.cell (p:=⟨wr.heap.size,0,none⟩) hz5).trans g0,(hb.cell (p:=⟨wr.heap.size,1,none⟩) hz5).trans g1⟩)
      have hd5:Below w5.heap.size w5 w5.drew:=(Below.refl _ w5).drew
      clear hw5 d0 hb5 b5
      have hx6:=hx5.trans ((Below.drewN (Below.refl w5.heap.size w5) nq).mono hx5.size)
      have hz6:wr.heap.size < (w5.drewN nq).heap.size:=hz5
      have HG6:=Lib.hid (fun (W':World) (hb:Below (w5.drewN nq).heap.size (w5.drewN nq) W')=>HG.out W' ((Below.drewN (Below.refl w5.heap.size w5) nq).trans hb))
      clear g0 g1 hd5 HG hx5 hz5
      generalize w5.drewN nq=w6 at *
      have hd6:Below w6.heap.size w6 w6.drew:=(Below.refl _ w6).drew
      obtain ⟨g0,g1⟩:=HG6.out _ (Below.refl _ w6)
      cases hnm:namesOk r 2 with
      | false =>
       have HZ:=Lib.hid hnm
       have HV:=Lib.hid (read_bad (j:=0) (by omega) HC.out (show ¬ (r.length=numJ 0∧r.all dig2=true) from names_no hnm))
       clear hnm
       go_wp2_with fail
       go_region_held3 (fun W'=>W'.cell? ⟨wr.heap.size,0,none⟩=some (.string ⟨#[99,111,109,101]⟩)∧W'.cell? ⟨wr.heap.size,1,none⟩=some (.int .i64 2))
        (first
          | exact HG6.out _ hx7
          | go_keep)
        (first
          | (go_at_call 42;refine (HNk.out w6.drew (hx6.trans (hd6.mono hx6.size))).mono ?_;rintro e w7 ⟨⟨v,rfl,-⟩,hb7⟩;rw [HZ.out];have hx7:Below w6.heap.size w6 w7:=hd6.trans hb7)
          | fail)
       have hy7:=hx6.trans (hx7.mono hx6.size)
       have b7:=(hy7.block w.heap.size (by omega)).trans ((hb1.block w.heap.size hz0).trans bR)
       obtain ⟨r0,r1,r2⟩:w7.cell? ⟨w.heap.size,0,none⟩=some (.int .i64 0)∧w7.cell? ⟨w.heap.size,1,none⟩=some (.int .i64 0)∧w7.cell? ⟨w.heap.size,2,none⟩=some (.int .i64 0):=⟨cell_of_row _ _ 0 _ _ _ b7,cell_of_row _ _ 1 _ _ _ b7,cell_of_row _ _ 2 _ _ _ b7⟩
       obtain ⟨f0,f1,f2⟩:w7.frozen? ⟨w.heap.size,0,none⟩=false∧w7.frozen? ⟨w.heap.size,1,none⟩=false∧w7.frozen? ⟨w.heap.size,2,none⟩=false:=⟨unfrozenB b7,unfrozenB b7,unfrozenB b7⟩
       have HY:=Lib.hid (hb0.trans ((hb1.trans (hy7.mono hz1)).mono (Nat.le_of_lt hz0)))
       clear g0 g1 hx7 hy7 hb7 hd6 hx6
       go_wp2_with fail
       obtain ⟨m0,m1,m2⟩:=put3 (.int .i64 0) (.int .i64 0) (.int .i64 0) b7
       refine bodyPost_ret (v:=.tuple #[.agg #[.int .i64 0,.int .i64 0,.int .i64 0],.bool false]) (by simp [results,Tryd.f14,go_sem,m0,m1,m2]) rfl ?_
       exact ⟨by rw [HV.out];rfl,((HY.out.setCell (p:=⟨w.heap.size,0,none⟩) (Nat.le_refl _) _).setCell (p:=⟨w.heap.size,1,none⟩) (Nat.le_refl _) _).setCell (p:=⟨w.heap.size,2,none⟩) (Nat.le_refl _) _⟩
      | true =>
       have HZ:=Lib.hid hnm
       have hp:=names_parts hnm
       have HV:=Lib.hid (read_yes (j:=0) (by omega) HC.out (show r.length=numJ 0 from hp.1) hp.2)
       have hl2:(valsN r).length<=2:=by rw [valsN,List.length_map,hp.1];omega
       clear hnm hp
       go_wp2_with fail
       go_region_held3 (fun W'=>W'.cell? ⟨wr.heap.size,0,none⟩=some (.string ⟨#[99,111,109,101]⟩)∧W'.cell? ⟨wr.heap.size,1,none⟩=some (.int .i64 2))
        (first
          | exact HG6.out _ hx7
          | go_keep)
        (first
          | (go_at_call 42;refine (HNk.out w6.drew (hx6.trans (hd6.mono hx6.size))).mono ?_;rintro e w7 ⟨⟨v,rfl,hv⟩,hb7⟩;obtain ⟨A7,c7,rfl,-,-,hI7⟩:=(hv HZ.out).form;rw [HZ.out];have hx7:Below w6.heap.size w6 w7:=hd6.trans hb7)
          | fail)
       have hy7:=hx6.trans (hx7.mono hx6.size)
       have HD:=Lib.hid (show Calls Tryd.prog 43 #[.int .i64 0,.slice A7 (valsN r).length c7] w7 fun e w'=>e=.returned (.agg #[.int .i64 0,.int .i64 (Z (valsN r) 0),.int .i64 (Z (valsN r) 1)])∧Below w7.heap.size w7 w' from c_deedOf 0 (valsN r) A7 c7 w7 hI7 hl2)
       have HY7:=Lib.hid hy7
       clear g0 g1 hx7 hy7 hb7 hd6 hx6 hv hI7 hl2
       go_wp2_with fail
       refine HD.out.mono ?_
       rintro e w8 ⟨rfl,hb8⟩
       have hy8:=HY7.out.trans (hb8.mono HY7.out.size)
       have b7:=(hy8.block w.heap.size (by omega)).trans ((hb1.block w.heap.size hz0).trans bR)
       obtain ⟨r0,r1,r2⟩:w8.cell? ⟨w.heap.size,0,none⟩=some (.int .i64 0)∧w8.cell? ⟨w.heap.size,1,none⟩=some (.int .i64 0)∧w8.cell? ⟨w.heap.size,2,none⟩=some (.int .i64 0):=⟨cell_of_row _ _ 0 _ _ _ b7,cell_of_row _ _ 1 _ _ _ b7,cell_of_row _ _ 2 _ _ _ b7⟩
       obtain ⟨f0,f1,f2⟩:w8.frozen? ⟨w.heap.size,0,none⟩=false∧w8.frozen? ⟨w.heap.size,1,none⟩=false∧w8.frozen? ⟨w.heap.size,2,none⟩=false:=⟨unfrozenB b7,unfrozenB b7,unfrozenB b7⟩
       have HY:=Lib.hid (hb0.trans ((hb1.trans (hy8.mono hz1)).mono (Nat.le_of_lt hz0)))
       clear hy8 hb8
       go_wp2_with fail
       obtain ⟨m0,m1,m2⟩:=put3 (.int .i64 0) (.int .i64 (Z (valsN r) 0)) (.int .i64 (Z (valsN r) 1)) b7
       refine bodyPost_ret (v:=.tuple #[.agg #[.int .i64 0,.int .i64 (Z (valsN r) 0),.int .i64 (Z (valsN r) 1)],.bool true]) (by simp [results,Tryd.f14,go_sem,m0,m1,m2]) rfl ?_
       exact ⟨by rw [HV.out,Z_vals,Z_vals];rfl,((HY.out.setCell (p:=⟨w.heap.size,0,none⟩) (Nat.le_refl _) _).setCell (p:=⟨w.heap.size,1,none⟩) (Nat.le_refl _) _).setCell (p:=⟨w.heap.size,2,none⟩) (Nat.le_refl _) _⟩
     ·have hne:((bs x).toList == [99,111,109,101])=false:=by
       rw [bs_list]
       cases h:(x == [99,111,109,101]) with
       | false=>rfl
       | true=>exact absurd (eq_of_beq h) hx
      have HNx:=Lib.hid (show ∀ j,j < 0+1->x≠wordJ j from fun j hj=>by
       rcases Nat.lt_succ_iff_lt_or_eq.1 hj with h | rfl
       ·exact HN.out j h
       ·exact hx)
      clear hx
      go_wp2_with fail
      obtain ⟨w5,hw5⟩:∃ w5,wr.alloc (.cells #[.string ⟨#[99,111,109,101]⟩,.int .i64 2] 54)=w5:=⟨_,rfl⟩
      have hb5:Below wr.heap.size wr w5:=by rw [<- hw5];exact (Below.refl _ wr).alloc (Nat.le_refl _) _
      have b5:w5.heap[wr.heap.size]?=some (.cells #[.string ⟨#[99,111,109,101]⟩,.int .i64 2] 54 (0,0)):=by rw [<- hw5];exact heap_alloc_new _ _
      rw [hw5]
      have hx5:=hbx.trans (hb5.mono hbx.size)
      have g0:=cell_of_row _ wr.heap.size 0 _ _ _ b5
      have d0:=(hx5.cell (p:=⟨w0.heap.size,0,none⟩) hlw).trans HW0.out
      go_quiet (fail)
      have HB6:=Lib.hid (show Below w2.heap.size w2 (w5.drewN nq) from hb.trans ((hb5.trans (Below.drewN (Below.refl wr.heap.size w5) nq)).mono hb.size))
      clear hw5 d0 g0 hb5 b5 hx5
      generalize w5.drewN nq=w6 at *
      go_wp2_with fail
      go_roundw
      case rel=>exact ⟨0+1,by omega,by go_num,HNx,HB6.out⟩
      case measure=>simp [intOf]
    ·have HNk:=Lib.hid (fun (W':World) (hb:Below w1.heap.size w1 W')=>show Calls Tryd.prog 42 #[.agg #[.string ⟨#[103,111]⟩,.int .i64 0],.slice (some ⟨w0.heap.size,0,none⟩) 0 0] W' fun e w'=>(∃ v,e=.returned (.tuple #[v,.bool (namesOk r 0)])∧(namesOk r 0=true->IO w' W'.heap.size v (valsN r)))∧Below W'.heap.size W' w' from HNum.out 0 ⟨#[103,111]⟩ W' hb)
     by_cases hx:x=wordJ 1
     ·have hne:((bs x).toList == [103,111])=true:=by rw [bs_list,hx];rfl
      have HC:=Lib.hid (show cutL 32 l=wordJ 1::r by rw [HCut.out,hx])
      clear hx
      go_wp2_with fail
      obtain ⟨w5,hw5⟩:∃ w5,wr.alloc (.cells #[.string ⟨#[103,111]⟩,.int .i64 0] 54)=w5:=⟨_,rfl⟩
      have hb5:Below wr.heap.size wr w5:=by rw [<- hw5];exact (Below.refl _ wr).alloc (Nat.le_refl _) _
      have b5:w5.heap[wr.heap.size]?=some (.cells #[.string ⟨#[103,111]⟩,.int .i64 0] 54 (0,0)):=by rw [<- hw5];exact heap_alloc_new _ _
      have hz5:wr.heap.size < w5.heap.size:=by rw [<- hw5];simp
      rw [hw5]
      have hx5:=hbx.trans (hb5.mono hbx.size)
      have g0:=cell_of_row _ wr.heap.size 0 _ _ _ b5
      have g1:=cell_of_row _ wr.heap.size 1 _ _ _ b5
      have d0:=(hx5.cell (p:=⟨w0.heap.size,0,none⟩) hlw).trans HW0.out
      go_quiet (fail)
      have HG:=Lib.hid (fun (W':World) (hb:Below w5.heap.size w5 W')=>show W'.cell? ⟨wr.heap.size,0,none⟩=some (.string ⟨#[103,111]⟩)∧W'.cell? ⟨wr.heap.size,1,none⟩=some (.int .i64 0) from ⟨(hb.cell (p:=⟨wr.heap.size,0,none⟩) hz5).trans g0,(hb.cell (p:=⟨wr.heap.size,1,none⟩) hz5).trans g1⟩)
      have hd5:Below w5.heap.size w5 w5.drew:=(Below.refl _ w5).drew
      clear hw5 d0 hb5 b5
      have hx6:=hx5.trans ((Below.drewN (Below.refl w5.heap.size w5) nq).mono hx5.size)
      have hz6:wr.heap.size < (w5.drewN nq).heap.size:=hz5
      have HG6:=Lib.hid (fun (W':World) (hb:Below (w5.drewN nq).heap.size (w5.drewN nq) W')=>HG.out W' ((Below.drewN (Below.refl w5.heap.size w5) nq).trans hb))
      clear g0 g1 hd5 HG hx5 hz5
      generalize w5.drewN nq=w6 at *
      have hd6:Below w6.heap.size w6 w6.drew:=(Below.refl _ w6).drew
      obtain ⟨g0,g1⟩:=HG6.out _ (Below.refl _ w6)
      cases hnm:namesOk r 0 with
      | false =>
       have HZ:=Lib.hid hnm
       have HV:=Lib.hid (read_bad (j:=1) (by omega) HC.out (show ¬ (r.length=numJ 1∧r.all dig2=true) from names_no hnm))
       clear hnm
       go_wp2_with fail
       go_region_held3 (fun W'=>W'.cell? ⟨wr.heap.size,0,none⟩=some (.string ⟨#[103,111]⟩)∧W'.cell? ⟨wr.heap.size,1,none⟩=some (.int .i64 0))
        (first
          | exact HG6.out _ hx7
          | go_keep)
        (first
          | (go_at_call 42;refine (HNk.out w6.drew (hx6.trans (hd6.mono hx6.size))).mono ?_;rintro e w7 ⟨⟨v,rfl,-⟩,hb7⟩;rw [HZ.out];have hx7:Below w6.heap.size w6 w7:=hd6.trans hb7)
          | fail)
       have hy7:=hx6.trans (hx7.mono hx6.size)
       have b7:=(hy7.block w.heap.size (by omega)).trans ((hb1.block w.heap.size hz0).trans bR)
       obtain ⟨r0,r1,r2⟩:w7.cell? ⟨w.heap.size,0,none⟩=some (.int .i64 0)∧w7.cell? ⟨w.heap.size,1,none⟩=some (.int .i64 0)∧w7.cell? ⟨w.heap.size,2,none⟩=some (.int .i64 0):=⟨cell_of_row _ _ 0 _ _ _ b7,cell_of_row _ _ 1 _ _ _ b7,cell_of_row _ _ 2 _ _ _ b7⟩
       obtain ⟨f0,f1,f2⟩:w7.frozen? ⟨w.heap.size,0,none⟩=false∧w7.frozen? ⟨w.heap.size,1,none⟩=false∧w7.frozen? ⟨w.heap.size,2,none⟩=false:=⟨unfrozenB b7,unfrozenB b7,unfrozenB b7⟩
       have HY:=Lib.hid (hb0.trans ((hb1.trans (hy7.mono hz1)).mono (Nat.le_of_lt hz0)))
       clear g0 g1 hx7 hy7 hb7 hd6 hx6
       go_wp2_with fail
       obtain ⟨m0,m1,m2⟩:=put3 (.int .i64 0) (.int .i64 0) (.int .i64 0) b7
       refine bodyPost_ret (v:=.tuple #[.agg #[.int .i64 0,.int .i64 0,.int .i64 0],.bool false]) (by simp [results,Tryd.f14,go_sem,m0,m1,m2]) rfl ?_
       exact ⟨by rw [HV.out];rfl,((HY.out.setCell (p:=⟨w.heap.size,0,none⟩) (Nat.le_refl _) _).setCell (p:=⟨w.heap.size,1,none⟩) (Nat.le_refl _) _).setCell (p:=⟨w.heap.size,2,none⟩) (Nat.le_refl _) _⟩
      | true =>
       have HZ:=Lib.hid hnm
       have hp:=names_parts hnm
       have HV:=Lib.hid (read_yes (j:=1) (by omega) HC.out (show r.length=numJ 1 from hp.1) hp.2)
       have hl2:(valsN r).length<=2:=by rw [valsN,List.length_map,hp.1];omega
       clear hnm hp
       go_wp2_with fail
       go_region_held3 (fun W'=>W'.cell? ⟨wr.heap.size,0,none⟩=some (.string ⟨#[103,111]⟩)∧W'.cell? ⟨wr.heap.size,1,none⟩=some (.int .i64 0))
        (first
          | exact HG6.out _ hx7
          | go_keep)
        (first
          | (go_at_call 42;refine (HNk.out w6.drew (hx6.trans (hd6.mono hx6.size))).mono ?_;rintro e w7 ⟨⟨v,rfl,hv⟩,hb7⟩;obtain ⟨A7,c7,rfl,-,-,hI7⟩:=(hv HZ.out).form;rw [HZ.out];have hx7:Below w6.heap.size w6 w7:=hd6.trans hb7)
          | fail)
       have hy7:=hx6.trans (hx7.mono hx6.size)
       have HD:=Lib.hid (show Calls Tryd.prog 43 #[.int .i64 1,.slice A7 (valsN r).length c7] w7 fun e w'=>e=.returned (.agg #[.int .i64 1,.int .i64 (Z (valsN r) 0),.int .i64 (Z (valsN r) 1)])∧Below w7.heap.size w7 w' from c_deedOf 1 (valsN r) A7 c7 w7 hI7 hl2)
       have HY7:=Lib.hid hy7
       clear g0 g1 hx7 hy7 hb7 hd6 hx6 hv hI7 hl2
       go_wp2_with fail
       refine HD.out.mono ?_
       rintro e w8 ⟨rfl,hb8⟩
       have hy8:=HY7.out.trans (hb8.mono HY7.out.size)
       have b7:=(hy8.block w.heap.size (by omega)).trans ((hb1.block w.heap.size hz0).trans bR)
       obtain ⟨r0,r1,r2⟩:w8.cell? ⟨w.heap.size,0,none⟩=some (.int .i64 0)∧w8.cell? ⟨w.heap.size,1,none⟩=some (.int .i64 0)∧w8.cell? ⟨w.heap.size,2,none⟩=some (.int .i64 0):=⟨cell_of_row _ _ 0 _ _ _ b7,cell_of_row _ _ 1 _ _ _ b7,cell_of_row _ _ 2 _ _ _ b7⟩
       obtain ⟨f0,f1,f2⟩:w8.frozen? ⟨w.heap.size,0,none⟩=false∧w8.frozen? ⟨w.heap.size,1,none⟩=false∧w8.frozen? ⟨w.heap.size,2,none⟩=false:=⟨unfrozenB b7,unfrozenB b7,unfrozenB b7⟩
       have HY:=Lib.hid (hb0.trans ((hb1.trans (hy8.mono hz1)).mono (Nat.le_of_lt hz0)))
       clear hy8 hb8
       go_wp2_with fail
       obtain ⟨m0,m1,m2⟩:=put3 (.int .i64 1) (.int .i64 (Z (valsN r) 0)) (.int .i64 (Z (valsN r) 1)) b7
       refine bodyPost_ret (v:=.tuple #[.agg #[.int .i64 1,.int .i64 (Z (valsN r) 0),.int .i64 (Z (valsN r) 1)],.bool true]) (by simp [results,Tryd.f14,go_sem,m0,m1,m2]) rfl ?_
       exact ⟨by rw [HV.out,Z_vals,Z_vals];rfl,((HY.out.setCell (p:=⟨w.heap.size,0,none⟩) (Nat.le_refl _) _).setCell (p:=⟨w.heap.size,1,none⟩) (Nat.le_refl _) _).setCell (p:=⟨w.heap.size,2,none⟩) (Nat.le_refl _) _⟩
     ·have hne:((bs x).toList == [103,111])=false:=by
       rw [bs_list]
       cases h:(x == [103,111]) with
       | false=>rfl
       | true=>exact absurd (eq_of_beq h) hx
      have HNx:=Lib.hid (show ∀ j,j < 1+1->x≠wordJ j from fun j hj=>by
       rcases Nat.lt_succ_iff_lt_or_eq.1 hj with h | rfl
       ·exact HN.out j h
       ·exact hx)
      clear hx
      go_wp2_with fail
      obtain ⟨w5,hw5⟩:∃ w5,wr.alloc (.cells #[.string ⟨#[103,111]⟩,.int .i64 0] 54)=w5:=⟨_,rfl⟩
      have hb5:Below wr.heap.size wr w5:=by rw [<- hw5];exact (Below.refl _ wr).alloc (Nat.le_refl _) _
      have b5:w5.heap[wr.heap.size]?=some (.cells #[.string ⟨#[103,111]⟩,.int .i64 0] 54 (0,0)):=by rw [<- hw5];exact heap_alloc_new _ _
      rw [hw5]
      have hx5:=hbx.trans (hb5.mono hbx.size)
      have g0:=cell_of_row _ wr.heap.size 0 _ _ _ b5
      have d0:=(hx5.cell (p:=⟨w0.heap.size,0,none⟩) hlw).trans HW0.out
      go_quiet (fail)
      have HB6:=Lib.hid (show Below w2.heap.size w2 (w5.drewN nq) from hb.trans ((hb5.trans (Below.drewN (Below.refl wr.heap.size w5) nq)).mono hb.size))
      clear hw5 d0 g0 hb5 b5 hx5
      generalize w5.drewN nq=w6 at *
      go_wp2_with fail
      go_roundw
      case rel=>exact ⟨1+1,by omega,by go_num,HNx,HB6.out⟩
      case measure=>simp [intOf]
    ·have HNk:=Lib.hid (fun (W':World) (hb:Below w1.heap.size w1 W')=>show Calls Tryd.prog 42 #[.agg #[.string ⟨#[110,101,101,100]⟩,.int .i64 1],.slice (some ⟨w0.heap.size,0,none⟩) 0 0] W' fun e w'=>(∃ v,e=.returned (.tuple #[v,.bool (namesOk r 1)])∧(namesOk r 1=true->IO w' W'.heap.size v (valsN r)))∧Below W'.heap.size W' w' from HNum.out 1 ⟨#[110,101,101,100]⟩ W' hb)
     by_cases hx:x=wordJ 2
     ·have hne:((bs x).toList == [110,101,101,100])=true:=by rw [bs_list,hx];rfl
      have HC:=Lib.hid (show cutL 32 l=wordJ 2::r by rw [HCut.out,hx])
      clear hx
      go_wp2_with fail
      obtain ⟨w5,hw5⟩:∃ w5,wr.alloc (.cells #[.string ⟨#[110,101,101,100]⟩,.int .i64 1] 54)=w5:=⟨_,rfl⟩
      have hb5:Below wr.heap.size wr w5:=by rw [<- hw5];exact (Below.refl _ wr).alloc (Nat.le_refl _) _
      have b5:w5.heap[wr.heap.size]?=some (.cells #[.string ⟨#[110,101,101,100]⟩,.int .i64 1] 54 (0,0)):=by rw [<- hw5];exact heap_alloc_new _ _
      have hz5:wr.heap.size < w5.heap.size:=by rw [<- hw5];simp
      rw [hw5]
      have hx5:=hbx.trans (hb5.mono hbx.size)
      have g0:=cell_of_row _ wr.heap.size 0 _ _ _ b5
      have g1:=cell_of_row _ wr.heap.size 1 _ _ _ b5
      have d0:=(hx5.cell (p:=⟨w0.heap.size,0,none⟩) hlw).trans HW0.out
      go_quiet (fail)
      have HG:=Lib.hid (fun (W':World) (hb:Below w5.heap.size w5 W')=>show W'.cell? ⟨wr.heap.size,0,none⟩=some (.string ⟨#[110,101,101,100]⟩)∧W'.cell? ⟨wr.heap.size,1,none⟩=some (.int .i64 1) from ⟨(hb.cell (p:=⟨wr.heap.size,0,none⟩) hz5).trans g0,(hb.cell (p:=⟨wr.heap.size,1,none⟩) hz5).trans g1⟩)
      have hd5:Below w5.heap.size w5 w5.drew:=(Below.refl _ w5).drew
      clear hw5 d0 hb5 b5
      have hx6:=hx5.trans ((Below.drewN (Below.refl w5.heap.size w5) nq).mono hx5.size)
      have hz6:wr.heap.size < (w5.drewN nq).heap.size:=hz5
      have HG6:=Lib.hid (fun (W':World) (hb:Below (w5.drewN nq).heap.size (w5.drewN nq) W')=>HG.out W' ((Below.drewN (Below.refl w5.heap.size w5) nq).trans hb))
      clear g0 g1 hd5 HG hx5 hz5
      generalize w5.drewN nq=w6 at *
      have hd6:Below w6.heap.size w6 w6.drew:=(Below.refl _ w6).drew
      obtain ⟨g0,g1⟩:=HG6.out _ (Below.refl _ w6)
      cases hnm:namesOk r 1 with
      | false =>
       have HZ:=Lib.hid hnm
       have HV:=Lib.hid (read_bad (j:=2) (by omega) HC.out (show ¬ (r.length=numJ 2∧r.all dig2=true) from names_no hnm))
       clear hnm
       go_wp2_with fail
       go_region_held3 (fun W'=>W'.cell? ⟨wr.heap.size,0,none⟩=some (.string ⟨#[110,101,101,100]⟩)∧W'.cell? ⟨wr.heap.size,1,none⟩=some (.int .i64 1))
        (first
          | exact HG6.out _ hx7
          | go_keep)
        (first
          | (go_at_call 42;refine (HNk.out w6.drew (hx6.trans (hd6.mono hx6.size))).mono ?_;rintro e w7 ⟨⟨v,rfl,-⟩,hb7⟩;rw [HZ.out];have hx7:Below w6.heap.size w6 w7:=hd6.trans hb7)
          | fail)
       have hy7:=hx6.trans (hx7.mono hx6.size)
       have b7:=(hy7.block w.heap.size (by omega)).trans ((hb1.block w.heap.size hz0).trans bR)
       obtain ⟨r0,r1,r2⟩:w7.cell? ⟨w.heap.size,0,none⟩=some (.int .i64 0)∧w7.cell? ⟨w.heap.size,1,none⟩=some (.int .i64 0)∧w7.cell? ⟨w.heap.size,2,none⟩=some (.int .i64 0):=⟨cell_of_row _ _ 0 _ _ _ b7,cell_of_row _ _ 1 _ _ _ b7,cell_of_row _ _ 2 _ _ _ b7⟩
       obtain ⟨f0,f1,f2⟩:w7.frozen? ⟨w.heap.size,0,none⟩=false∧w7.frozen? ⟨w.heap.size,1,none⟩=false∧w7.frozen? ⟨w.heap.size,2,none⟩=false:=⟨unfrozenB b7,unfrozenB b7,unfrozenB b7⟩
       have HY:=Lib.hid (hb0.trans ((hb1.trans (hy7.mono hz1)).mono (Nat.le_of_lt hz0)))
       clear g0 g1 hx7 hy7 hb7 hd6 hx6
       go_wp2_with fail
       obtain ⟨m0,m1,m2⟩:=put3 (.int .i64 0) (.int .i64 0) (.int .i64 0) b7
       refine bodyPost_ret (v:=.tuple #[.agg #[.int .i64 0,.int .i64 0,.int .i64 0],.bool false]) (by simp [results,Tryd.f14,go_sem,m0,m1,m2]) rfl ?_
       exact ⟨by rw [HV.out];rfl,((HY.out.setCell (p:=⟨w.heap.size,0,none⟩) (Nat.le_refl _) _).setCell (p:=⟨w.heap.size,1,none⟩) (Nat.le_refl _) _).setCell (p:=⟨w.heap.size,2,none⟩) (Nat.le_refl _) _⟩
      | true =>
       have HZ:=Lib.hid hnm
       have hp:=names_parts hnm
       have HV:=Lib.hid (read_yes (j:=2) (by omega) HC.out (show r.length=numJ 2 from hp.1) hp.2)
       have hl2:(valsN r).length<=2:=by rw [valsN,List.length_map,hp.1];omega
       clear hnm hp
       go_wp2_with fail
       go_region_held3 (fun W'=>W'.cell? ⟨wr.heap.size,0,none⟩=some (.string ⟨#[110,101,101,100]⟩)∧W'.cell? ⟨wr.heap.size,1,none⟩=some (.int .i64 1))
        (first
          | exact HG6.out _ hx7
          | go_keep)
        (first
          | (go_at_call 42;refine (HNk.out w6.drew (hx6.trans (hd6.mono hx6.size))).mono ?_;rintro e w7 ⟨⟨v,rfl,hv⟩,hb7⟩;obtain ⟨A7,c7,rfl,-,-,hI7⟩:=(hv HZ.out).form;rw [HZ.out];have hx7:Below w6.heap.size w6 w7:=hd6.trans hb7)
          | fail)
       have hy7:=hx6.trans (hx7.mono hx6.size)
       have HD:=Lib.hid (show Calls Tryd.prog 43 #[.int .i64 2,.slice A7 (valsN r).length c7] w7 fun e w'=>e=.returned (.agg #[.int .i64 2,.int .i64 (Z (valsN r) 0),.int .i64 (Z (valsN r) 1)])∧Below w7.heap.size w7 w' from c_deedOf 2 (valsN r) A7 c7 w7 hI7 hl2)
       have HY7:=Lib.hid hy7
       clear g0 g1 hx7 hy7 hb7 hd6 hx6 hv hI7 hl2
       go_wp2_with fail
       refine HD.out.mono ?_
       rintro e w8 ⟨rfl,hb8⟩
       have hy8:=HY7.out.trans (hb8.mono HY7.out.size)
       have b7:=(hy8.block w.heap.size (by omega)).trans ((hb1.block w.heap.size hz0).trans bR)
       obtain ⟨r0,r1,r2⟩:w8.cell? ⟨w.heap.size,0,none⟩=some (.int .i64 0)∧w8.cell? ⟨w.heap.size,1,none⟩=some (.int .i64 0)∧w8.cell? ⟨w.heap.size,2,none⟩=some (.int .i64 0):=⟨cell_of_row _ _ 0 _ _ _ b7,cell_of_row _ _ 1 _ _ _ b7,cell_of_row _ _ 2 _ _ _ b7⟩
       obtain ⟨f0,f1,f2⟩:w8.frozen? ⟨w.heap.size,0,none⟩=false∧w8.frozen? ⟨w.heap.size,1,none⟩=false∧w8.frozen? ⟨w.heap.size,2,none⟩=false:=⟨unfrozenB b7,unfrozenB b7,unfrozenB b7⟩
       have HY:=Lib.hid (hb0.trans ((hb1.trans (hy8.mono hz1)).mono (Nat.le_of_lt hz0)))
       clear hy8 hb8
       go_wp2_with fail
       obtain ⟨m0,m1,m2⟩:=put3 (.int .i64 2) (.int .i64 (Z (valsN r) 0)) (.int .i64 (Z (valsN r) 1)) b7
       refine bodyPost_ret (v:=.tuple #[.agg #[.int .i64 2,.int .i64 (Z (valsN r) 0),.int .i64 (Z (valsN r) 1)],.bool true]) (by simp [results,Tryd.f14,go_sem,m0,m1,m2]) rfl ?_
       exact ⟨by rw [HV.out,Z_vals,Z_vals];rfl,((HY.out.setCell (p:=⟨w.heap.size,0,none⟩) (Nat.le_refl _) _).setCell (p:=⟨w.heap.size,1,none⟩) (Nat.le_refl _) _).setCell (p:=⟨w.heap.size,2,none⟩) (Nat.le_refl _) _⟩
     ·have hne:((bs x).toList == [110,101,101,100])=false:=by
       rw [bs_list]
       cases h:(x == [110,101,101,100]) with
       | false=>rfl
       | true=>exact absurd (eq_of_beq h) hx
      have HNx:=Lib.hid (show ∀ j,j < 2+1->x≠wordJ j from fun j hj=>by
       rcases Nat.lt_succ_iff_lt_or_eq.1 hj with h | rfl
       ·exact HN.out j h
       ·exact hx)
      clear hx
      go_wp2_with fail
      obtain ⟨w5,hw5⟩:∃ w5,wr.alloc (.cells #[.string ⟨#[110,101,101,100]⟩,.int .i64 1] 54)=w5:=⟨_,rfl⟩
      have hb5:Below wr.heap.size wr w5:=by rw [<- hw5];exact (Below.refl _ wr).alloc (Nat.le_refl _) _
      have b5:w5.heap[wr.heap.size]?=some (.cells #[.string ⟨#[110,101,101,100]⟩,.int .i64 1] 54 (0,0)):=by rw [<- hw5];exact heap_alloc_new _ _
      rw [hw5]
      have hx5:=hbx.trans (hb5.mono hbx.size)
      have g0:=cell_of_row _ wr.heap.size 0 _ _ _ b5
      have d0:=(hx5.cell (p:=⟨w0.heap.size,0,none⟩) hlw).trans HW0.out
      go_quiet (fail)
      have HB6:=Lib.hid (show Below w2.heap.size w2 (w5.drewN nq) from hb.trans ((hb5.trans (Below.drewN (Below.refl wr.heap.size w5) nq)).mono hb.size))
      clear hw5 d0 g0 hb5 b5 hx5
      generalize w5.drewN nq=w6 at *
      go_wp2_with fail
      go_roundw
      case rel=>exact ⟨2+1,by omega,by go_num,HNx,HB6.out⟩
      case measure=>simp [intOf]
    ·have HNk:=Lib.hid (fun (W':World) (hb:Below w1.heap.size w1 W')=>show Calls Tryd.prog 42 #[.agg #[.string ⟨#[108,97,116,101,114]⟩,.int .i64 1],.slice (some ⟨w0.heap.size,0,none⟩) 0 0] W' fun e w'=>(∃ v,e=.returned (.tuple #[v,.bool (namesOk r 1)])∧(namesOk r 1=true->IO w' W'.heap.size v (valsN r)))∧Below W'.heap.size W' w' from HNum.out 1 ⟨#[108,97,116,101,114]⟩ W' hb)
     by_cases hx:x=wordJ 3
     ·have hne:((bs x).toList == [108,97,116,101,114])=true:=by rw [bs_list,hx];rfl
      have HC:=Lib.hid (show cutL 32 l=wordJ 3::r by rw [HCut.out,hx])
      clear hx
      go_wp2_with fail
      obtain ⟨w5,hw5⟩:∃ w5,wr.alloc (.cells #[.string ⟨#[108,97,116,101,114]⟩,.int .i64 1] 54)=w5:=⟨_,rfl⟩
      have hb5:Below wr.heap.size wr w5:=by rw [<- hw5];exact (Below.refl _ wr).alloc (Nat.le_refl _) _
      have b5:w5.heap[wr.heap.size]?=some (.cells #[.string ⟨#[108,97,116,101,114]⟩,.int .i64 1] 54 (0,0)):=by rw [<- hw5];exact heap_alloc_new _ _
      have hz5:wr.heap.size < w5.heap.size:=by rw [<- hw5];simp
      rw [hw5]
      have hx5:=hbx.trans (hb5.mono hbx.size)
      have g0:=cell_of_row _ wr.heap.size 0 _ _ _ b5
      have g1:=cell_of_row _ wr.heap.size 1 _ _ _ b5
      have d0:=(hx5.cell (p:=⟨w0.heap.size,0,none⟩) hlw).trans HW0.out
      go_quiet (fail)
      have HG:=Lib.hid (fun (W':World) (hb:Below w5.heap.size w5 W')=>show W'.cell? ⟨wr.heap.size,0,none⟩=some (.string ⟨#[108,97,116,101,114]⟩)∧W'.cell? ⟨wr.heap.size,1,none⟩=some (.int .i64 1) from ⟨(hb.cell (p:=⟨wr.heap.size,0,none⟩) hz5).trans g0,(hb.cell (p:=⟨wr.heap.size,1,none⟩) hz5).trans g1⟩)
      have hd5:Below w5.heap.size w5 w5.drew:=(Below.refl _ w5).drew
      clear hw5 d0 hb5 b5
      have hx6:=hx5.trans ((Below.drewN (Below.refl w5.heap.size w5) nq).mono hx5.size)
      have hz6:wr.heap.size < (w5.drewN nq).heap.size:=hz5
      have HG6:=Lib.hid (fun (W':World) (hb:Below (w5.drewN nq).heap.size (w5.drewN nq) W')=>HG.out W' ((Below.drewN (Below.refl w5.heap.size w5) nq).trans hb))
      clear g0 g1 hd5 HG hx5 hz5
      generalize w5.drewN nq=w6 at *
      have hd6:Below w6.heap.size w6 w6.drew:=(Below.refl _ w6).drew
      obtain ⟨g0,g1⟩:=HG6.out _ (Below.refl _ w6)
      cases hnm:namesOk r 1 with
      | false =>
       have HZ:=Lib.hid hnm
       have HV:=Lib.hid (read_bad (j:=3) (by omega) HC.out (show ¬ (r.length=numJ 3∧r.all dig2=true) from names_no hnm))
       clear hnm
       go_wp2_with fail
       go_region_held3 (fun W'=>W'.cell? ⟨wr.heap.size,0,none⟩=some (.string ⟨#[108,97,116,101,114]⟩)∧W'.cell? ⟨wr.heap.size,1,none⟩=some (.int .i64 1))
        (first
          | exact HG6.out _ hx7
          | go_keep)
        (first
          | (go_at_call 42;refine (HNk.out w6.drew (hx6.trans (hd6.mono hx6.size))).mono ?_;rintro e w7 ⟨⟨v,rfl,-⟩,hb7⟩;rw [HZ.out];have hx7:Below w6.heap.size w6 w7:=hd6.trans hb7)
          | fail)
       have hy7:=hx6.trans (hx7.mono hx6.size)
       have b7:=(hy7.block w.heap.size (by omega)).trans ((hb1.block w.heap.size hz0).trans bR)
       obtain ⟨r0,r1,r2⟩:w7.cell? ⟨w.heap.size,0,none⟩=some (.int .i64 0)∧w7.cell? ⟨w.heap.size,1,none⟩=some (.int .i64 0)∧w7.cell? ⟨w.heap.size,2,none⟩=some (.int .i64 0):=⟨cell_of_row _ _ 0 _ _ _ b7,cell_of_row _ _ 1 _ _ _ b7,cell_of_row _ _ 2 _ _ _ b7⟩
       obtain ⟨f0,f1,f2⟩:w7.frozen? ⟨w.heap.size,0,none⟩=false∧w7.frozen? ⟨w.heap.size,1,none⟩=false∧w7.frozen? ⟨w.heap.size,2,none⟩=false:=⟨unfrozenB b7,unfrozenB b7,unfrozenB b7⟩
       have HY:=Lib.hid (hb0.trans ((hb1.trans (hy7.mono hz1)).mono (Nat.le_of_lt hz0)))
       clear g0 g1 hx7 hy7 hb7 hd6 hx6
       go_wp2_with fail
       obtain ⟨m0,m1,m2⟩:=put3 (.int .i64 0) (.int .i64 0) (.int .i64 0) b7
       refine bodyPost_ret (v:=.tuple #[.agg #[.int .i64 0,.int .i64 0,.int .i64 0],.bool false]) (by simp [results,Tryd.f14,go_sem,m0,m1,m2]) rfl ?_
       exact ⟨by rw [HV.out];rfl,((HY.out.setCell (p:=⟨w.heap.size,0,none⟩) (Nat.le_refl _) _).setCell (p:=⟨w.heap.size,1,none⟩) (Nat.le_refl _) _).setCell (p:=⟨w.heap.size,2,none⟩) (Nat.le_refl _) _⟩
      | true =>
       have HZ:=Lib.hid hnm
       have hp:=names_parts hnm
       have HV:=Lib.hid (read_yes (j:=3) (by omega) HC.out (show r.length=numJ 3 from hp.1) hp.2)
       have hl2:(valsN r).length<=2:=by rw [valsN,List.length_map,hp.1];omega
       clear hnm hp
       go_wp2_with fail
       go_region_held3 (fun W'=>W'.cell? ⟨wr.heap.size,0,none⟩=some (.string ⟨#[108,97,116,101,114]⟩)∧W'.cell? ⟨wr.heap.size,1,none⟩=some (.int .i64 1))
        (first
          | exact HG6.out _ hx7
          | go_keep)
        (first
          | (go_at_call 42;refine (HNk.out w6.drew (hx6.trans (hd6.mono hx6.size))).mono ?_;rintro e w7 ⟨⟨v,rfl,hv⟩,hb7⟩;obtain ⟨A7,c7,rfl,-,-,hI7⟩:=(hv HZ.out).form;rw [HZ.out];have hx7:Below w6.heap.size w6 w7:=hd6.trans hb7)
          | fail)
       have hy7:=hx6.trans (hx7.mono hx6.size)
       have HD:=Lib.hid (show Calls Tryd.prog 43 #[.int .i64 3,.slice A7 (valsN r).length c7] w7 fun e w'=>e=.returned (.agg #[.int .i64 3,.int .i64 (Z (valsN r) 0),.int .i64 (Z (valsN r) 1)])∧Below w7.heap.size w7 w' from c_deedOf 3 (valsN r) A7 c7 w7 hI7 hl2)
       have HY7:=Lib.hid hy7
       clear g0 g1 hx7 hy7 hb7 hd6 hx6 hv hI7 hl2
       go_wp2_with fail
       refine HD.out.mono ?_
       rintro e w8 ⟨rfl,hb8⟩
       have hy8:=HY7.out.trans (hb8.mono HY7.out.size)
       have b7:=(hy8.block w.heap.size (by omega)).trans ((hb1.block w.heap.size hz0).trans bR)
       obtain ⟨r0,r1,r2⟩:w8.cell? ⟨w.heap.size,0,none⟩=some (.int .i64 0)∧w8.cell? ⟨w.heap.size,1,none⟩=some (.int .i64 0)∧w8.cell? ⟨w.heap.size,2,none⟩=some (.int .i64 0):=⟨cell_of_row _ _ 0 _ _ _ b7,cell_of_row _ _ 1 _ _ _ b7,cell_of_row _ _ 2 _ _ _ b7⟩
       obtain ⟨f0,f1,f2⟩:w8.frozen? ⟨w.heap.size,0,none⟩=false∧w8.frozen? ⟨w.heap.size,1,none⟩=false∧w8.frozen? ⟨w.heap.size,2,none⟩=false:=⟨unfrozenB b7,unfrozenB b7,unfrozenB b7⟩
       have HY:=Lib.hid (hb0.trans ((hb1.trans (hy8.mono hz1)).mono (Nat.le_of_lt hz0)))
       clear hy8 hb8
       go_wp2_with fail
       obtain ⟨m0,m1,m2⟩:=put3 (.int .i64 3) (.int .i64 (Z (valsN r) 0)) (.int .i64 (Z (valsN r) 1)) b7
       refine bodyPost_ret (v:=.tuple #[.agg #[.int .i64 3,.int .i64 (Z (valsN r) 0),.int .i64 (Z (valsN r) 1)],.bool true]) (by simp [results,Tryd.f14,go_sem,m0,m1,m2]) rfl ?_
       exact ⟨by rw [HV.out,Z_vals,Z_vals];rfl,((HY.out.setCell (p:=⟨w.heap.size,0,none⟩) (Nat.le_refl _) _).setCell (p:=⟨w.heap.size,1,none⟩) (Nat.le_refl _) _).setCell (p:=⟨w.heap.size,2,none⟩) (Nat.le_refl _) _⟩
     ·have hne:((bs x).toList == [108,97,116,101,114])=false:=by
       rw [bs_list]
       cases h:(x == [108,97,116,101,114]) with
       | false=>rfl
       | true=>exact absurd (eq_of_beq h) hx
      have HNx:=Lib.hid (show ∀ j,j < 3+1->x≠wordJ j from fun j hj=>by
       rcases Nat.lt_succ_iff_lt_or_eq.1 hj with h | rfl
       ·exact HN.out j h
       ·exact hx)
      clear hx
      go_wp2_with fail
      obtain ⟨w5,hw5⟩:∃ w5,wr.alloc (.cells #[.string ⟨#[108,97,116,101,114]⟩,.int .i64 1] 54)=w5:=⟨_,rfl⟩
      have hb5:Below wr.heap.size wr w5:=by rw [<- hw5];exact (Below.refl _ wr).alloc (Nat.le_refl _) _
      have b5:w5.heap[wr.heap.size]?=some (.cells #[.string ⟨#[108,97,116,101,114]⟩,.int .i64 1] 54 (0,0)):=by rw [<- hw5];exact heap_alloc_new _ _
      rw [hw5]
      have hx5:=hbx.trans (hb5.mono hbx.size)
      have g0:=cell_of_row _ wr.heap.size 0 _ _ _ b5
      have d0:=(hx5.cell (p:=⟨w0.heap.size,0,none⟩) hlw).trans HW0.out
      go_quiet (fail)
      have HB6:=Lib.hid (show Below w2.heap.size w2 (w5.drewN nq) from hb.trans ((hb5.trans (Below.drewN (Below.refl wr.heap.size w5) nq)).mono hb.size))
      clear hw5 d0 g0 hb5 b5 hx5
      generalize w5.drewN nq=w6 at *
      go_wp2_with fail
      go_roundw
      case rel=>exact ⟨3+1,by omega,by go_num,HNx,HB6.out⟩
      case measure=>simp [intOf]
    ·have HNk:=Lib.hid (fun (W':World) (hb:Below w1.heap.size w1 W')=>show Calls Tryd.prog 42 #[.agg #[.string ⟨#[98,97,99,107]⟩,.int .i64 0],.slice (some ⟨w0.heap.size,0,none⟩) 0 0] W' fun e w'=>(∃ v,e=.returned (.tuple #[v,.bool (namesOk r 0)])∧(namesOk r 0=true->IO w' W'.heap.size v (valsN r)))∧Below W'.heap.size W' w' from HNum.out 0 ⟨#[98,97,99,107]⟩ W' hb)
     by_cases hx:x=wordJ 4
     ·have hne:((bs x).toList == [98,97,99,107])=true:=by rw [bs_list,hx];rfl
      have HC:=Lib.hid (show cutL 32 l=wordJ 4::r by rw [HCut.out,hx])
      clear hx
      go_wp2_with fail
      obtain ⟨w5,hw5⟩:∃ w5,wr.alloc (.cells #[.string ⟨#[98,97,99,107]⟩,.int .i64 0] 54)=w5:=⟨_,rfl⟩
      have hb5:Below wr.heap.size wr w5:=by rw [<- hw5];exact (Below.refl _ wr).alloc (Nat.le_refl _) _
      have b5:w5.heap[wr.heap.size]?=some (.cells #[.string ⟨#[98,97,99,107]⟩,.int .i64 0] 54 (0,0)):=by rw [<- hw5];exact heap_alloc_new _ _
      have hz5:wr.heap.size < w5.heap.size:=by rw [<- hw5];simp
      rw [hw5]
      have hx5:=hbx.trans (hb5.mono hbx.size)
      have g0:=cell_of_row _ wr.heap.size 0 _ _ _ b5
      have g1:=cell_of_row _ wr.heap.size 1 _ _ _ b5
      have d0:=(hx5.cell (p:=⟨w0.heap.size,0,none⟩) hlw).trans HW0.out
      go_quiet (fail)
      have HG:=Lib.hid (fun (W':World) (hb:Below w5.heap.size w5 W')=>show W'.cell? ⟨wr.heap.size,0,none⟩=some (.string ⟨#[98,97,99,107]⟩)∧W'.cell? ⟨wr.heap.size,1,none⟩=some (.int .i64 0) from ⟨(hb.cell (p:=⟨wr.heap.size,0,none⟩) hz5).trans g0,(hb.cell (p:=⟨wr.heap.size,1,none⟩) hz5).trans g1⟩)
      have hd5:Below w5.heap.size w5 w5.drew:=(Below.refl _ w5).drew
      clear hw5 d0 hb5 b5
      have hx6:=hx5.trans ((Below.drewN (Below.refl w5.heap.size w5) nq).mono hx5.size)
      have hz6:wr.heap.size < (w5.drewN nq).heap.size:=hz5
      have HG6:=Lib.hid (fun (W':World) (hb:Below (w5.drewN nq).heap.size (w5.drewN nq) W')=>HG.out W' ((Below.drewN (Below.refl w5.heap.size w5) nq).trans hb))
      clear g0 g1 hd5 HG hx5 hz5
      generalize w5.drewN nq=w6 at *
      have hd6:Below w6.heap.size w6 w6.drew:=(Below.refl _ w6).drew
      obtain ⟨g0,g1⟩:=HG6.out _ (Below.refl _ w6)
      cases hnm:namesOk r 0 with
      | false =>
       have HZ:=Lib.hid hnm
       have HV:=Lib.hid (read_bad (j:=4) (by omega) HC.out (show ¬ (r.length=numJ 4∧r.all dig2=true) from names_no hnm))
       clear hnm
       go_wp2_with fail
       go_region_held3 (fun W'=>W'.cell? ⟨wr.heap.size,0,none⟩=some (.string ⟨#[98,97,99,107]⟩)∧W'.cell? ⟨wr.heap.size,1,none⟩=some (.int .i64 0))
        (first
          | exact HG6.out _ hx7
          | go_keep)
        (first
          | (go_at_call 42;refine (HNk.out w6.drew (hx6.trans (hd6.mono hx6.size))).mono ?_;rintro e w7 ⟨⟨v,rfl,-⟩,hb7⟩;rw [HZ.out];have hx7:Below w6.heap.size w6 w7:=hd6.trans hb7)
          | fail)
       have hy7:=hx6.trans (hx7.mono hx6.size)
       have b7:=(hy7.block w.heap.size (by omega)).trans ((hb1.block w.heap.size hz0).trans bR)
       obtain ⟨r0,r1,r2⟩:w7.cell? ⟨w.heap.size,0,none⟩=some (.int .i64 0)∧w7.cell? ⟨w.heap.size,1,none⟩=some (.int .i64 0)∧w7.cell? ⟨w.heap.size,2,none⟩=some (.int .i64 0):=⟨cell_of_row _ _ 0 _ _ _ b7,cell_of_row _ _ 1 _ _ _ b7,cell_of_row _ _ 2 _ _ _ b7⟩
       obtain ⟨f0,f1,f2⟩:w7.frozen? ⟨w.heap.size,0,none⟩=false∧w7.frozen? ⟨w.heap.size,1,none⟩=false∧w7.frozen? ⟨w.heap.size,2,none⟩=false:=⟨unfrozenB b7,unfrozenB b7,unfrozenB b7⟩
       have HY:=Lib.hid (hb0.trans ((hb1.trans (hy7.mono hz1)).mono (Nat.le_of_lt hz0)))
       clear g0 g1 hx7 hy7 hb7 hd6 hx6
       go_wp2_with fail
       obtain ⟨m0,m1,m2⟩:=put3 (.int .i64 0) (.int .i64 0) (.int .i64 0) b7
       refine bodyPost_ret (v:=.tuple #[.agg #[.int .i64 0,.int .i64 0,.int .i64 0],.bool false]) (by simp [results,Tryd.f14,go_sem,m0,m1,m2]) rfl ?_
       exact ⟨by rw [HV.out];rfl,((HY.out.setCell (p:=⟨w.heap.size,0,none⟩) (Nat.le_refl _) _).setCell (p:=⟨w.heap.size,1,none⟩) (Nat.le_refl _) _).setCell (p:=⟨w.heap.size,2,none⟩) (Nat.le_refl _) _⟩
      | true =>
       have HZ:=Lib.hid hnm
       have hp:=names_parts hnm
       have HV:=Lib.hid (read_yes (j:=4) (by omega) HC.out (show r.length=numJ 4 from hp.1) hp.2)
       have hl2:(valsN r).length<=2:=by rw [valsN,List.length_map,hp.1];omega
       clear hnm hp
       go_wp2_with fail
       go_region_held3 (fun W'=>W'.cell? ⟨wr.heap.size,0,none⟩=some (.string ⟨#[98,97,99,107]⟩)∧W'.cell? ⟨wr.heap.size,1,none⟩=some (.int .i64 0))
        (first
          | exact HG6.out _ hx7
          | go_keep)
        (first
          | (go_at_call 42;refine (HNk.out w6.drew (hx6.trans (hd6.mono hx6.size))).mono ?_;rintro e w7 ⟨⟨v,rfl,hv⟩,hb7⟩;obtain ⟨A7,c7,rfl,-,-,hI7⟩:=(hv HZ.out).form;rw [HZ.out];have hx7:Below w6.heap.size w6 w7:=hd6.trans hb7)
          | fail)
       have hy7:=hx6.trans (hx7.mono hx6.size)
       have HD:=Lib.hid (show Calls Tryd.prog 43 #[.int .i64 4,.slice A7 (valsN r).length c7] w7 fun e w'=>e=.returned (.agg #[.int .i64 4,.int .i64 (Z (valsN r) 0),.int .i64 (Z (valsN r) 1)])∧Below w7.heap.size w7 w' from c_deedOf 4 (valsN r) A7 c7 w7 hI7 hl2)
       have HY7:=Lib.hid hy7
       clear g0 g1 hx7 hy7 hb7 hd6 hx6 hv hI7 hl2
       go_wp2_with fail
       refine HD.out.mono ?_
       rintro e w8 ⟨rfl,hb8⟩
       have hy8:=HY7.out.trans (hb8.mono HY7.out.size)
       have b7:=(hy8.block w.heap.size (by omega)).trans ((hb1.block w.heap.size hz0).trans bR)
       obtain ⟨r0,r1,r2⟩:w8.cell? ⟨w.heap.size,0,none⟩=some (.int .i64 0)∧w8.cell? ⟨w.heap.size,1,none⟩=some (.int .i64 0)∧w8.cell? ⟨w.heap.size,2,none⟩=some (.int .i64 0):=⟨cell_of_row _ _ 0 _ _ _ b7,cell_of_row _ _ 1 _ _ _ b7,cell_of_row _ _ 2 _ _ _ b7⟩
       obtain ⟨f0,f1,f2⟩:w8.frozen? ⟨w.heap.size,0,none⟩=false∧w8.frozen? ⟨w.heap.size,1,none⟩=false∧w8.frozen? ⟨w.heap.size,2,none⟩=false:=⟨unfrozenB b7,unfrozenB b7,unfrozenB b7⟩
       have HY:=Lib.hid (hb0.trans ((hb1.trans (hy8.mono hz1)).mono (Nat.le_of_lt hz0)))
       clear hy8 hb8
       go_wp2_with fail
       obtain ⟨m0,m1,m2⟩:=put3 (.int .i64 4) (.int .i64 (Z (valsN r) 0)) (.int .i64 (Z (valsN r) 1)) b7
       refine bodyPost_ret (v:=.tuple #[.agg #[.int .i64 4,.int .i64 (Z (valsN r) 0),.int .i64 (Z (valsN r) 1)],.bool true]) (by simp [results,Tryd.f14,go_sem,m0,m1,m2]) rfl ?_
       exact ⟨by rw [HV.out,Z_vals,Z_vals];rfl,((HY.out.setCell (p:=⟨w.heap.size,0,none⟩) (Nat.le_refl _) _).setCell (p:=⟨w.heap.size,1,none⟩) (Nat.le_refl _) _).setCell (p:=⟨w.heap.size,2,none⟩) (Nat.le_refl _) _⟩
     ·have hne:((bs x).toList == [98,97,99,107])=false:=by
       rw [bs_list]
       cases h:(x == [98,97,99,107]) with
       | false=>rfl
       | true=>exact absurd (eq_of_beq h) hx
      have HNx:=Lib.hid (show ∀ j,j < 4+1->x≠wordJ j from fun j hj=>by
       rcases Nat.lt_succ_iff_lt_or_eq.1 hj with h | rfl
       ·exact HN.out j h
       ·exact hx)
      clear hx
      go_wp2_with fail
      obtain ⟨w5,hw5⟩:∃ w5,wr.alloc (.cells #[.string ⟨#[98,97,99,107]⟩,.int .i64 0] 54)=w5:=⟨_,rfl⟩
      have hb5:Below wr.heap.size wr w5:=by rw [<- hw5];exact (Below.refl _ wr).alloc (Nat.le_refl _) _
      have b5:w5.heap[wr.heap.size]?=some (.cells #[.string ⟨#[98,97,99,107]⟩,.int .i64 0] 54 (0,0)):=by rw [<- hw5];exact heap_alloc_new _ _
      rw [hw5]
      have hx5:=hbx.trans (hb5.mono hbx.size)
      have g0:=cell_of_row _ wr.heap.size 0 _ _ _ b5
      have d0:=(hx5.cell (p:=⟨w0.heap.size,0,none⟩) hlw).trans HW0.out
      go_quiet (fail)
      have HB6:=Lib.hid (show Below w2.heap.size w2 (w5.drewN nq) from hb.trans ((hb5.trans (Below.drewN (Below.refl wr.heap.size w5) nq)).mono hb.size))
      clear hw5 d0 g0 hb5 b5 hx5
      generalize w5.drewN nq=w6 at *
      go_wp2_with fail
      go_roundw
      case rel=>exact ⟨4+1,by omega,by go_num,HNx,HB6.out⟩
      case measure=>simp [intOf]
   ·have hk5:k=5:=by omega
    have HV:=Lib.hid (read_none HCut.out (fun j hj=>HN.out j (by omega)))
    subst hk5
    have b7:=(hbx.block w.heap.size (by omega)).trans ((hb1.block w.heap.size hz0).trans bR)
    obtain ⟨r0,r1,r2⟩:wr.cell? ⟨w.heap.size,0,none⟩=some (.int .i64 0)∧wr.cell? ⟨w.heap.size,1,none⟩=some (.int .i64 0)∧wr.cell? ⟨w.heap.size,2,none⟩=some (.int .i64 0):=⟨cell_of_row _ _ 0 _ _ _ b7,cell_of_row _ _ 1 _ _ _ b7,cell_of_row _ _ 2 _ _ _ b7⟩
    obtain ⟨f0,f1,f2⟩:wr.frozen? ⟨w.heap.size,0,none⟩=false∧wr.frozen? ⟨w.heap.size,1,none⟩=false∧wr.frozen? ⟨w.heap.size,2,none⟩=false:=⟨unfrozenB b7,unfrozenB b7,unfrozenB b7⟩
    have HY:=Lib.hid (hb0.trans ((hb1.trans (hbx.mono hz1)).mono (Nat.le_of_lt hz0)))
    go_wp2_with fail
    obtain ⟨m0,m1,m2⟩:=put3 (.int .i64 0) (.int .i64 0) (.int .i64 0) b7
    refine bodyPost_ret (v:=.tuple #[.agg #[.int .i64 0,.int .i64 0,.int .i64 0],.bool false]) (by simp [results,Tryd.f14,go_sem,m0,m1,m2]) rfl ?_
    exact ⟨by rw [HV.out];rfl,((HY.out.setCell (p:=⟨w.heap.size,0,none⟩) (Nat.le_refl _) _).setCell (p:=⟨w.heap.size,1,none⟩) (Nat.le_refl _) _).setCell (p:=⟨w.heap.size,2,none⟩) (Nat.le_refl _) _⟩
 ·have s0:0 < n1:=by omega
  go_enter Tryd.func14,Tryd.ntmps14
  go_wp2_with fail
  refine HSp.out.mono ?_
  rintro e w1 ⟨rfl,hS,hb1⟩
  obtain ⟨b',off',e1,hlw,hcw⟩:=hS (by simp)
  cases e1
  have HW0:=Lib.hid (show w1.cell? ⟨w0.heap.size,0,none⟩=some (.string (bs x)) from hcw 0 (by simp))
  have HNum:=Lib.hid (fun (n:Nat) (W:ByteArray) (W':World) (hb:Below w1.heap.size w1 W')=>show Calls Tryd.prog 42 #[.agg #[.string W,.int .i64 (n:Int)],.slice (some ⟨w0.heap.size,1,none⟩) (n1 - 1) (n1 - 1)] W' fun e w'=>(∃ v,e=.returned (.tuple #[v,.bool (namesOk r n)])∧(namesOk r n=true->IO w' W'.heap.size v (valsN r)))∧Below W'.heap.size W' w' from by
   have hr0:Ss w1 w1.heap.size (some ⟨w0.heap.size,0+1,none⟩) ((x::r).drop 1):=hS.drop 1
   have K:=c_readNumbers r W n (some ⟨w0.heap.size,1,none⟩) r.length W' (((by simpa using hr0:Ss w1 w1.heap.size (some ⟨w0.heap.size,1,none⟩) r).below hb).more hb.size) hr1 hrx (HV0.out.at (hb1.trans (hb.mono hb1.size)))
   rwa [show r.length=n1 - 1 by omega] at K)
  clear hcw hS hw0
  have hz1:=hb1.size
  have s1:1 < n1:=by omega
  have s2:(1:Int)<=(n1:Int):=by omega
  clear hrl hr1 hrx
  go_wp2_with fail
  refine (c_deedForms _).mono ?_
  rintro e w2 ⟨rfl,hb2⟩
  have hz2:=hb2.size
  go_wp2_with fail
  go_loopw [12] (fun i wr=>∃ k:Nat,k<=5∧i=.int .i64 (k:Int)∧Hid (∀ j,j < k->x≠wordJ j)∧Below w2.heap.size w2 wr) (fun i _=>5 - (intOf i).toNat)
  case atStart=>exact ⟨0,by omega,rfl,Lib.hid (fun j hj=>by omega),Below.refl _ _⟩
  case round =>
   obtain ⟨k,hk,rfl,HN,hb⟩:=hrel
   have hbx:Below w1.heap.size w1 wr:=hb2.trans (hb.mono hz2)
   by_cases h5:k < 5
   ·have hk5:k=0∨k=1∨k=2∨k=3∨k=4:=by omega
    rcases hk5 with rfl | rfl | rfl | rfl | rfl
    ·have HNk:=Lib.hid (fun (W':World) (hb:Below w1.heap.size w1 W')=>show Calls Tryd.prog 42 #[.agg #[.string ⟨#[99,111,109,101]⟩,.int .i64 2],.slice (some ⟨w0.heap.size,1,none⟩) (n1 - 1) (n1 - 1)] W' fun e w'=>(∃ v,e=.returned (.tuple #[v,.bool (namesOk r 2)])∧(namesOk r 2=true->IO w' W'.heap.size v (valsN r)))∧Below W'.heap.size W' w' from HNum.out 2 ⟨#[99,111,109,101]⟩ W' hb)
     by_cases hx:x=wordJ 0
     ·have hne:((bs x).toList == [99,111,109,101])=true:=by rw [bs_list,hx];rfl
      have HC:=Lib.hid (show cutL 32 l=wordJ 0::r by rw [HCut.out,hx])
      clear hx
      go_wp2_with fail
      obtain ⟨w5,hw5⟩:∃ w5,wr.alloc (.cells #[.string ⟨#[99,111,109,101]⟩,.int .i64 2] 54)=w5:=⟨_,rfl⟩
      have hb5:Below wr.heap.size wr w5:=by rw [<- hw5];exact (Below.refl _ wr).alloc (Nat.le_refl _) _
      have b5:w5.heap[wr.heap.size]?=some (.cells #[.string ⟨#[99,111,109,101]⟩,.int .i64 2] 54 (0,0)):=by rw [<- hw5];exact heap_alloc_new _ _
      have hz5:wr.heap.size < w5.heap.size:=by rw [<- hw5];simp
      rw [hw5]
      have hx5:=hbx.trans (hb5.mono hbx.size)
      have g0:=cell_of_row _ wr.heap.size 0 _ _ _ b5
      have g1:=cell_of_row _ wr.heap.size 1 _ _ _ b5
      have d0:=(hx5.cell (p:=⟨w0.heap.size,0,none⟩) hlw).trans HW0.out
      go_quiet (fail)
      have HG:=Lib.hid (fun (W':World) (hb:Below w5.heap.size w5 W')=>show W'.cell? ⟨wr.heap.size,0,none⟩=some (.string ⟨#[99,111,109,101]⟩)∧W'.cell? ⟨wr.heap.size,1,none⟩=some (.int .i64 2) from ⟨(hb.cell (p:=⟨wr.heap.size,0,none⟩) hz5).trans g0,(hb.cell (p:=⟨wr.heap.size,1,none⟩) hz5).trans g1⟩)
      have hd5:Below w5.heap.size w5 w5.drew:=(Below.refl _ w5).drew
      clear hw5 d0 hb5 b5
      have hx6:=hx5.trans ((Below.drewN (Below.refl w5.heap.size w5) nq).mono hx5.size)
      have hz6:wr.heap.size < (w5.drewN nq).heap.size:=hz5
      have HG6:=Lib.hid (fun (W':World) (hb:Below (w5.drewN nq).heap.size (w5.drewN nq) W')=>HG.out W' ((Below.drewN (Below.refl w5.heap.size w5) nq).trans hb))
      clear g0 g1 hd5 HG hx5 hz5
      generalize w5.drewN nq=w6 at *
      have hd6:Below w6.heap.size w6 w6.drew:=(Below.refl _ w6).drew
      obtain ⟨g0,g1⟩:=HG6.out _ (Below.refl _ w6)
      cases hnm:namesOk r 2 with
      | false =>
       have HZ:=Lib.hid hnm
       have HV:=Lib.hid (read_bad (j:=0) (by omega) HC.out (show ¬ (r.length=numJ 0∧r.all dig2=true) from names_no hnm))
       clear hnm
       go_wp2_with fail
       go_region_held3 (fun W'=>W'.cell? ⟨wr.heap.size,0,none⟩=some (.string ⟨#[99,111,109,101]⟩)∧W'.cell? ⟨wr.heap.size,1,none⟩=some (.int .i64 2))
        (first
          | exact HG6.out _ hx7
          | go_keep)
        (first
          | (go_at_call 42;refine (HNk.out w6.drew (hx6.trans (hd6.mono hx6.size))).mono ?_;rintro e w7 ⟨⟨v,rfl,-⟩,hb7⟩;rw [HZ.out];have hx7:Below w6.heap.size w6 w7:=hd6.trans hb7)
          | fail)
       have hy7:=hx6.trans (hx7.mono hx6.size)
       have b7:=(hy7.block w.heap.size (by omega)).trans ((hb1.block w.heap.size hz0).trans bR)
       obtain ⟨r0,r1,r2⟩:w7.cell? ⟨w.heap.size,0,none⟩=some (.int .i64 0)∧w7.cell? ⟨w.heap.size,1,none⟩=some (.int .i64 0)∧w7.cell? ⟨w.heap.size,2,none⟩=some (.int .i64 0):=⟨cell_of_row _ _ 0 _ _ _ b7,cell_of_row _ _ 1 _ _ _ b7,cell_of_row _ _ 2 _ _ _ b7⟩
       obtain ⟨f0,f1,f2⟩:w7.frozen? ⟨w.heap.size,0,none⟩=false∧w7.frozen? ⟨w.heap.size,1,none⟩=false∧w7.frozen? ⟨w.heap.size,2,none⟩=false:=⟨unfrozenB b7,unfrozenB b7,unfrozenB b7⟩
       have HY:=Lib.hid (hb0.trans ((hb1.trans (hy7.mono hz1)).mono (Nat.le_of_lt hz0)))
       clear g0 g1 hx7 hy7 hb7 hd6 hx6
       go_wp2_with fail
       obtain ⟨m0,m1,m2⟩:=put3 (.int .i64 0) (.int .i64 0) (.int .i64 0) b7
       refine bodyPost_ret (v:=.tuple #[.agg #[.int .i64 0,.int .i64 0,.int .i64 0],.bool false]) (by simp [results,Tryd.f14,go_sem,m0,m1,m2]) rfl ?_
       exact ⟨by rw [HV.out];rfl,((HY.out.setCell (p:=⟨w.heap.size,0,none⟩) (Nat.le_refl _) _).setCell (p:=⟨w.heap.size,1,none⟩) (Nat.le_refl _) _).setCell (p:=⟨w.heap.size,2,none⟩) (Nat.le_refl _) _⟩
      | true =>
       have HZ:=Lib.hid hnm
       have hp:=names_parts hnm
       have HV:=Lib.hid (read_yes (j:=0) (by omega) HC.out (show r.length=numJ 0 from hp.1) hp.2)
       have hl2:(valsN r).length<=2:=by rw [valsN,List.length_map,hp.1];omega
       clear hnm hp
       go_wp2_with fail
       go_region_held3 (fun W'=>W'.cell? ⟨wr.heap.size,0,none⟩=some (.string ⟨#[99,111,109,101]⟩)∧W'.cell? ⟨wr.heap.size,1,none⟩=some (.int .i64 2))
        (first
          | exact HG6.out _ hx7
          | go_keep)
        (first
          | (go_at_call 42;refine (HNk.out w6.drew (hx6.trans (hd6.mono hx6.size))).mono ?_;rintro e w7 ⟨⟨v,rfl,hv⟩,hb7⟩;obtain ⟨A7,c7,rfl,-,-,hI7⟩:=(hv HZ.out).form;rw [HZ.out];have hx7:Below w6.heap.size w6 w7:=hd6.trans hb7)
          | fail)
       have hy7:=hx6.trans (hx7.mono hx6.size)
       have HD:=Lib.hid (show Calls Tryd.prog 43 #[.int .i64 0,.slice A7 (valsN r).length c7] w7 fun e w'=>e=.returned (.agg #[.int .i64 0,.int .i64 (Z (valsN r) 0),.int .i64 (Z (valsN r) 1)])∧Below w7.heap.size w7 w' from c_deedOf 0 (valsN r) A7 c7 w7 hI7 hl2)
       have HY7:=Lib.hid hy7
       clear g0 g1 hx7 hy7 hb7 hd6 hx6 hv hI7 hl2
       go_wp2_with fail
       refine HD.out.mono ?_
       rintro e w8 ⟨rfl,hb8⟩
       have hy8:=HY7.out.trans (hb8.mono HY7.out.size)
       have b7:=(hy8.block w.heap.size (by omega)).trans ((hb1.block w.heap.size hz0).trans bR)
       obtain ⟨r0,r1,r2⟩:w8.cell? ⟨w.heap.size,0,none⟩=some (.int .i64 0)∧w8.cell? ⟨w.heap.size,1,none⟩=some (.int .i64 0)∧w8.cell? ⟨w.heap.size,2,none⟩=some (.int .i64 0):=⟨cell_of_row _ _ 0 _ _ _ b7,cell_of_row _ _ 1 _ _ _ b7,cell_of_row _ _ 2 _ _ _ b7⟩
       obtain ⟨f0,f1,f2⟩:w8.frozen? ⟨w.heap.size,0,none⟩=false∧w8.frozen? ⟨w.heap.size,1,none⟩=false∧w8.frozen? ⟨w.heap.size,2,none⟩=false:=⟨unfrozenB b7,unfrozenB b7,unfrozenB b7⟩
       have HY:=Lib.hid (hb0.trans ((hb1.trans (hy8.mono hz1)).mono (Nat.le_of_lt hz0)))
       clear hy8 hb8
       go_wp2_with fail
       obtain ⟨m0,m1,m2⟩:=put3 (.int .i64 0) (.int .i64 (Z (valsN r) 0)) (.int .i64 (Z (valsN r) 1)) b7
       refine bodyPost_ret (v:=.tuple #[.agg #[.int .i64 0,.int .i64 (Z (valsN r) 0),.int .i64 (Z (valsN r) 1)],.bool true]) (by simp [results,Tryd.f14,go_sem,m0,m1,m2]) rfl ?_
       exact ⟨by rw [HV.out,Z_vals,Z_vals];rfl,((HY.out.setCell (p:=⟨w.heap.size,0,none⟩) (Nat.le_refl _) _).setCell (p:=⟨w.heap.size,1,none⟩) (Nat.le_refl _) _).setCell (p:=⟨w.heap.size,2,none⟩) (Nat.le_refl _) _⟩
     ·have hne:((bs x).toList == [99,111,109,101])=false:=by
       rw [bs_list]
       cases h:(x == [99,111,109,101]) with
       | false=>rfl
       | true=>exact absurd (eq_of_beq h) hx
      have HNx:=Lib.hid (show ∀ j,j < 0+1->x≠wordJ j from fun j hj=>by
       rcases Nat.lt_succ_iff_lt_or_eq.1 hj with h | rfl
       ·exact HN.out j h
       ·exact hx)
      clear hx
      go_wp2_with fail
      obtain ⟨w5,hw5⟩:∃ w5,wr.alloc (.cells #[.string ⟨#[99,111,109,101]⟩,.int .i64 2] 54)=w5:=⟨_,rfl⟩
      have hb5:Below wr.heap.size wr w5:=by rw [<- hw5];exact (Below.refl _ wr).alloc (Nat.le_refl _) _
      have b5:w5.heap[wr.heap.size]?=some (.cells #[.string ⟨#[99,111,109,101]⟩,.int .i64 2] 54 (0,0)):=by rw [<- hw5];exact heap_alloc_new _ _
      rw [hw5]
      have hx5:=hbx.trans (hb5.mono hbx.size)
      have g0:=cell_of_row _ wr.heap.size 0 _ _ _ b5
      have d0:=(hx5.cell (p:=⟨w0.heap.size,0,none⟩) hlw).trans HW0.out
      go_quiet (fail)
      have HB6:=Lib.hid (show Below w2.heap.size w2 (w5.drewN nq) from hb.trans ((hb5.trans (Below.drewN (Below.refl wr.heap.size w5) nq)).mono hb.size))
      clear hw5 d0 g0 hb5 b5 hx5
      generalize w5.drewN nq=w6 at *
      go_wp2_with fail
      go_roundw
      case rel=>exact ⟨0+1,by omega,by go_num,HNx,HB6.out⟩
      case measure=>simp [intOf]
    ·have HNk:=Lib.hid (fun (W':World) (hb:Below w1.heap.size w1 W')=>show Calls Tryd.prog 42 #[.agg #[.string ⟨#[103,111]⟩,.int .i64 0],.slice (some ⟨w0.heap.size,1,none⟩) (n1 - 1) (n1 - 1)] W' fun e w'=>(∃ v,e=.returned (.tuple #[v,.bool (namesOk r 0)])∧(namesOk r 0=true->IO w' W'.heap.size v (valsN r)))∧Below W'.heap.size W' w' from HNum.out 0 ⟨#[103,111]⟩ W' hb)
     by_cases hx:x=wordJ 1
     ·have hne:((bs x).toList == [103,111])=true:=by rw [bs_list,hx];rfl
      have HC:=Lib.hid (show cutL 32 l=wordJ 1::r by rw [HCut.out,hx])
      clear hx
      go_wp2_with fail
      obtain ⟨w5,hw5⟩:∃ w5,wr.alloc (.cells #[.string ⟨#[103,111]⟩,.int .i64 0] 54)=w5:=⟨_,rfl⟩
      have hb5:Below wr.heap.size wr w5:=by rw [<- hw5];exact (Below.refl _ wr).alloc (Nat.le_refl _) _
      have b5:w5.heap[wr.heap.size]?=some (.cells #[.string ⟨#[103,111]⟩,.int .i64 0] 54 (0,0)):=by rw [<- hw5];exact heap_alloc_new _ _
      have hz5:wr.heap.size < w5.heap.size:=by rw [<- hw5];simp
      rw [hw5]
      have hx5:=hbx.trans (hb5.mono hbx.size)
      have g0:=cell_of_row _ wr.heap.size 0 _ _ _ b5
      have g1:=cell_of_row _ wr.heap.size 1 _ _ _ b5
      have d0:=(hx5.cell (p:=⟨w0.heap.size,0,none⟩) hlw).trans HW0.out
      go_quiet (fail)
      have HG:=Lib.hid (fun (W':World) (hb:Below w5.heap.size w5 W')=>show W'.cell? ⟨wr.heap.size,0,none⟩=some (.string ⟨#[103,111]⟩)∧W'.cell? ⟨wr.heap.size,1,none⟩=some (.int .i64 0) from ⟨(hb.cell (p:=⟨wr.heap.size,0,none⟩) hz5).trans g0,(hb.cell (p:=⟨wr.heap.size,1,none⟩) hz5).trans g1⟩)
      have hd5:Below w5.heap.size w5 w5.drew:=(Below.refl _ w5).drew
      clear hw5 d0 hb5 b5
      have hx6:=hx5.trans ((Below.drewN (Below.refl w5.heap.size w5) nq).mono hx5.size)
      have hz6:wr.heap.size < (w5.drewN nq).heap.size:=hz5
      have HG6:=Lib.hid (fun (W':World) (hb:Below (w5.drewN nq).heap.size (w5.drewN nq) W')=>HG.out W' ((Below.drewN (Below.refl w5.heap.size w5) nq).trans hb))
      clear g0 g1 hd5 HG hx5 hz5
      generalize w5.drewN nq=w6 at *
      have hd6:Below w6.heap.size w6 w6.drew:=(Below.refl _ w6).drew
      obtain ⟨g0,g1⟩:=HG6.out _ (Below.refl _ w6)
      cases hnm:namesOk r 0 with
      | false =>
       have HZ:=Lib.hid hnm
       have HV:=Lib.hid (read_bad (j:=1) (by omega) HC.out (show ¬ (r.length=numJ 1∧r.all dig2=true) from names_no hnm))
       clear hnm
       go_wp2_with fail
       go_region_held3 (fun W'=>W'.cell? ⟨wr.heap.size,0,none⟩=some (.string ⟨#[103,111]⟩)∧W'.cell? ⟨wr.heap.size,1,none⟩=some (.int .i64 0))
        (first
          | exact HG6.out _ hx7
          | go_keep)
        (first
          | (go_at_call 42;refine (HNk.out w6.drew (hx6.trans (hd6.mono hx6.size))).mono ?_;rintro e w7 ⟨⟨v,rfl,-⟩,hb7⟩;rw [HZ.out];have hx7:Below w6.heap.size w6 w7:=hd6.trans hb7)
          | fail)
       have hy7:=hx6.trans (hx7.mono hx6.size)
       have b7:=(hy7.block w.heap.size (by omega)).trans ((hb1.block w.heap.size hz0).trans bR)
       obtain ⟨r0,r1,r2⟩:w7.cell? ⟨w.heap.size,0,none⟩=some (.int .i64 0)∧w7.cell? ⟨w.heap.size,1,none⟩=some (.int .i64 0)∧w7.cell? ⟨w.heap.size,2,none⟩=some (.int .i64 0):=⟨cell_of_row _ _ 0 _ _ _ b7,cell_of_row _ _ 1 _ _ _ b7,cell_of_row _ _ 2 _ _ _ b7⟩
       obtain ⟨f0,f1,f2⟩:w7.frozen? ⟨w.heap.size,0,none⟩=false∧w7.frozen? ⟨w.heap.size,1,none⟩=false∧w7.frozen? ⟨w.heap.size,2,none⟩=false:=⟨unfrozenB b7,unfrozenB b7,unfrozenB b7⟩
       have HY:=Lib.hid (hb0.trans ((hb1.trans (hy7.mono hz1)).mono (Nat.le_of_lt hz0)))
       clear g0 g1 hx7 hy7 hb7 hd6 hx6
       go_wp2_with fail
       obtain ⟨m0,m1,m2⟩:=put3 (.int .i64 0) (.int .i64 0) (.int .i64 0) b7
       refine bodyPost_ret (v:=.tuple #[.agg #[.int .i64 0,.int .i64 0,.int .i64 0],.bool false]) (by simp [results,Tryd.f14,go_sem,m0,m1,m2]) rfl ?_
       exact ⟨by rw [HV.out];rfl,((HY.out.setCell (p:=⟨w.heap.size,0,none⟩) (Nat.le_refl _) _).setCell (p:=⟨w.heap.size,1,none⟩) (Nat.le_refl _) _).setCell (p:=⟨w.heap.size,2,none⟩) (Nat.le_refl _) _⟩
      | true =>
       have HZ:=Lib.hid hnm
       have hp:=names_parts hnm
       have HV:=Lib.hid (read_yes (j:=1) (by omega) HC.out (show r.length=numJ 1 from hp.1) hp.2)
       have hl2:(valsN r).length<=2:=by rw [valsN,List.length_map,hp.1];omega
       clear hnm hp
       go_wp2_with fail
       go_region_held3 (fun W'=>W'.cell? ⟨wr.heap.size,0,none⟩=some (.string ⟨#[103,111]⟩)∧W'.cell? ⟨wr.heap.size,1,none⟩=some (.int .i64 0))
        (first
          | exact HG6.out _ hx7
          | go_keep)
        (first
          | (go_at_call 42;refine (HNk.out w6.drew (hx6.trans (hd6.mono hx6.size))).mono ?_;rintro e w7 ⟨⟨v,rfl,hv⟩,hb7⟩;obtain ⟨A7,c7,rfl,-,-,hI7⟩:=(hv HZ.out).form;rw [HZ.out];have hx7:Below w6.heap.size w6 w7:=hd6.trans hb7)
          | fail)
       have hy7:=hx6.trans (hx7.mono hx6.size)
       have HD:=Lib.hid (show Calls Tryd.prog 43 #[.int .i64 1,.slice A7 (valsN r).length c7] w7 fun e w'=>e=.returned (.agg #[.int .i64 1,.int .i64 (Z (valsN r) 0),.int .i64 (Z (valsN r) 1)])∧Below w7.heap.size w7 w' from c_deedOf 1 (valsN r) A7 c7 w7 hI7 hl2)
       have HY7:=Lib.hid hy7
       clear g0 g1 hx7 hy7 hb7 hd6 hx6 hv hI7 hl2
       go_wp2_with fail
       refine HD.out.mono ?_
       rintro e w8 ⟨rfl,hb8⟩
       have hy8:=HY7.out.trans (hb8.mono HY7.out.size)
       have b7:=(hy8.block w.heap.size (by omega)).trans ((hb1.block w.heap.size hz0).trans bR)
       obtain ⟨r0,r1,r2⟩:w8.cell? ⟨w.heap.size,0,none⟩=some (.int .i64 0)∧w8.cell? ⟨w.heap.size,1,none⟩=some (.int .i64 0)∧w8.cell? ⟨w.heap.size,2,none⟩=some (.int .i64 0):=⟨cell_of_row _ _ 0 _ _ _ b7,cell_of_row _ _ 1 _ _ _ b7,cell_of_row _ _ 2 _ _ _ b7⟩
       obtain ⟨f0,f1,f2⟩:w8.frozen? ⟨w.heap.size,0,none⟩=false∧w8.frozen? ⟨w.heap.size,1,none⟩=false∧w8.frozen? ⟨w.heap.size,2,none⟩=false:=⟨unfrozenB b7,unfrozenB b7,unfrozenB b7⟩
       have HY:=Lib.hid (hb0.trans ((hb1.trans (hy8.mono hz1)).mono (Nat.le_of_lt hz0)))
       clear hy8 hb8
       go_wp2_with fail
       obtain ⟨m0,m1,m2⟩:=put3 (.int .i64 1) (.int .i64 (Z (valsN r) 0)) (.int .i64 (Z (valsN r) 1)) b7
       refine bodyPost_ret (v:=.tuple #[.agg #[.int .i64 1,.int .i64 (Z (valsN r) 0),.int .i64 (Z (valsN r) 1)],.bool true]) (by simp [results,Tryd.f14,go_sem,m0,m1,m2]) rfl ?_
       exact ⟨by rw [HV.out,Z_vals,Z_vals];rfl,((HY.out.setCell (p:=⟨w.heap.size,0,none⟩) (Nat.le_refl _) _).setCell (p:=⟨w.heap.size,1,none⟩) (Nat.le_refl _) _).setCell (p:=⟨w.heap.size,2,none⟩) (Nat.le_refl _) _⟩
     ·have hne:((bs x).toList == [103,111])=false:=by
       rw [bs_list]
       cases h:(x == [103,111]) with
       | false=>rfl
       | true=>exact absurd (eq_of_beq h) hx
      have HNx:=Lib.hid (show ∀ j,j < 1+1->x≠wordJ j from fun j hj=>by
       rcases Nat.lt_succ_iff_lt_or_eq.1 hj with h | rfl
       ·exact HN.out j h
       ·exact hx)
      clear hx
      go_wp2_with fail
      obtain ⟨w5,hw5⟩:∃ w5,wr.alloc (.cells #[.string ⟨#[103,111]⟩,.int .i64 0] 54)=w5:=⟨_,rfl⟩
      have hb5:Below wr.heap.size wr w5:=by rw [<- hw5];exact (Below.refl _ wr).alloc (Nat.le_refl _) _
      have b5:w5.heap[wr.heap.size]?=some (.cells #[.string ⟨#[103,111]⟩,.int .i64 0] 54 (0,0)):=by rw [<- hw5];exact heap_alloc_new _ _
      rw [hw5]
      have hx5:=hbx.trans (hb5.mono hbx.size)
      have g0:=cell_of_row _ wr.heap.size 0 _ _ _ b5
      have d0:=(hx5.cell (p:=⟨w0.heap.size,0,none⟩) hlw).trans HW0.out
      go_quiet (fail)
      have HB6:=Lib.hid (show Below w2.heap.size w2 (w5.drewN nq) from hb.trans ((hb5.trans (Below.drewN (Below.refl wr.heap.size w5) nq)).mono hb.size))
      clear hw5 d0 g0 hb5 b5 hx5
      generalize w5.drewN nq=w6 at *
      go_wp2_with fail
      go_roundw
      case rel=>exact ⟨1+1,by omega,by go_num,HNx,HB6.out⟩
      case measure=>simp [intOf]
    ·have HNk:=Lib.hid (fun (W':World) (hb:Below w1.heap.size w1 W')=>show Calls Tryd.prog 42 #[.agg #[.string ⟨#[110,101,101,100]⟩,.int .i64 1],.slice (some ⟨w0.heap.size,1,none⟩) (n1 - 1) (n1 - 1)] W' fun e w'=>(∃ v,e=.returned (.tuple #[v,.bool (namesOk r 1)])∧(namesOk r 1=true->IO w' W'.heap.size v (valsN r)))∧Below W'.heap.size W' w' from HNum.out 1 ⟨#[110,101,101,100]⟩ W' hb)
     by_cases hx:x=wordJ 2
     ·have hne:((bs x).toList == [110,101,101,100])=true:=by rw [bs_list,hx];rfl
      have HC:=Lib.hid (show cutL 32 l=wordJ 2::r by rw [HCut.out,hx])
      clear hx
      go_wp2_with fail
      obtain ⟨w5,hw5⟩:∃ w5,wr.alloc (.cells #[.string ⟨#[110,101,101,100]⟩,.int .i64 1] 54)=w5:=⟨_,rfl⟩
      have hb5:Below wr.heap.size wr w5:=by rw [<- hw5];exact (Below.refl _ wr).alloc (Nat.le_refl _) _
      have b5:w5.heap[wr.heap.size]?=some (.cells #[.string ⟨#[110,101,101,100]⟩,.int .i64 1] 54 (0,0)):=by rw [<- hw5];exact heap_alloc_new _ _
      have hz5:wr.heap.size < w5.heap.size:=by rw [<- hw5];simp
      rw [hw5]
      have hx5:=hbx.trans (hb5.mono hbx.size)
      have g0:=cell_of_row _ wr.heap.size 0 _ _ _ b5
      have g1:=cell_of_row _ wr.heap.size 1 _ _ _ b5
      have d0:=(hx5.cell (p:=⟨w0.heap.size,0,none⟩) hlw).trans HW0.out
      go_quiet (fail)
      have HG:=Lib.hid (fun (W':World) (hb:Below w5.heap.size w5 W')=>show W'.cell? ⟨wr.heap.size,0,none⟩=some (.string ⟨#[110,101,101,100]⟩)∧W'.cell? ⟨wr.heap.size,1,none⟩=some (.int .i64 1) from ⟨(hb.cell (p:=⟨wr.heap.size,0,none⟩) hz5).trans g0,(hb.cell (p:=⟨wr.heap.size,1,none⟩) hz5).trans g1⟩)
      have hd5:Below w5.heap.size w5 w5.drew:=(Below.refl _ w5).drew
      clear hw5 d0 hb5 b5
      have hx6:=hx5.trans ((Below.drewN (Below.refl w5.heap.size w5) nq).mono hx5.size)
      have hz6:wr.heap.size < (w5.drewN nq).heap.size:=hz5
      have HG6:=Lib.hid (fun (W':World) (hb:Below (w5.drewN nq).heap.size (w5.drewN nq) W')=>HG.out W' ((Below.drewN (Below.refl w5.heap.size w5) nq).trans hb))
      clear g0 g1 hd5 HG hx5 hz5
      generalize w5.drewN nq=w6 at *
      have hd6:Below w6.heap.size w6 w6.drew:=(Below.refl _ w6).drew
      obtain ⟨g0,g1⟩:=HG6.out _ (Below.refl _ w6)
      cases hnm:namesOk r 1 with
      | false =>
       have HZ:=Lib.hid hnm
       have HV:=Lib.hid (read_bad (j:=2) (by omega) HC.out (show ¬ (r.length=numJ 2∧r.all dig2=true) from names_no hnm))
       clear hnm
       go_wp2_with fail
       go_region_held3 (fun W'=>W'.cell? ⟨wr.heap.size,0,none⟩=some (.string ⟨#[110,101,101,100]⟩)∧W'.cell? ⟨wr.heap.size,1,none⟩=some (.int .i64 1))
        (first
          | exact HG6.out _ hx7
          | go_keep)
        (first
          | (go_at_call 42;refine (HNk.out w6.drew (hx6.trans (hd6.mono hx6.size))).mono ?_;rintro e w7 ⟨⟨v,rfl,-⟩,hb7⟩;rw [HZ.out];have hx7:Below w6.heap.size w6 w7:=hd6.trans hb7)
          | fail)
       have hy7:=hx6.trans (hx7.mono hx6.size)
       have b7:=(hy7.block w.heap.size (by omega)).trans ((hb1.block w.heap.size hz0).trans bR)
       obtain ⟨r0,r1,r2⟩:w7.cell? ⟨w.heap.size,0,none⟩=some (.int .i64 0)∧w7.cell? ⟨w.heap.size,1,none⟩=some (.int .i64 0)∧w7.cell? ⟨w.heap.size,2,none⟩=some (.int .i64 0):=⟨cell_of_row _ _ 0 _ _ _ b7,cell_of_row _ _ 1 _ _ _ b7,cell_of_row _ _ 2 _ _ _ b7⟩
       obtain ⟨f0,f1,f2⟩:w7.frozen? ⟨w.heap.size,0,none⟩=false∧w7.frozen? ⟨w.heap.size,1,none⟩=false∧w7.frozen? ⟨w.heap.size,2,none⟩=false:=⟨unfrozenB b7,unfrozenB b7,unfrozenB b7⟩
       have HY:=Lib.hid (hb0.trans ((hb1.trans (hy7.mono hz1)).mono (Nat.le_of_lt hz0)))
       clear g0 g1 hx7 hy7 hb7 hd6 hx6
       go_wp2_with fail
       obtain ⟨m0,m1,m2⟩:=put3 (.int .i64 0) (.int .i64 0) (.int .i64 0) b7
       refine bodyPost_ret (v:=.tuple #[.agg #[.int .i64 0,.int .i64 0,.int .i64 0],.bool false]) (by simp [results,Tryd.f14,go_sem,m0,m1,m2]) rfl ?_
       exact ⟨by rw [HV.out];rfl,((HY.out.setCell (p:=⟨w.heap.size,0,none⟩) (Nat.le_refl _) _).setCell (p:=⟨w.heap.size,1,none⟩) (Nat.le_refl _) _).setCell (p:=⟨w.heap.size,2,none⟩) (Nat.le_refl _) _⟩
      | true =>
       have HZ:=Lib.hid hnm
       have hp:=names_parts hnm
       have HV:=Lib.hid (read_yes (j:=2) (by omega) HC.out (show r.length=numJ 2 from hp.1) hp.2)
       have hl2:(valsN r).length<=2:=by rw [valsN,List.length_map,hp.1];omega
       clear hnm hp
       go_wp2_with fail
       go_region_held3 (fun W'=>W'.cell? ⟨wr.heap.size,0,none⟩=some (.string ⟨#[110,101,101,100]⟩)∧W'.cell? ⟨wr.heap.size,1,none⟩=some (.int .i64 1))
        (first
          | exact HG6.out _ hx7
          | go_keep)
        (first
          | (go_at_call 42;refine (HNk.out w6.drew (hx6.trans (hd6.mono hx6.size))).mono ?_;rintro e w7 ⟨⟨v,rfl,hv⟩,hb7⟩;obtain ⟨A7,c7,rfl,-,-,hI7⟩:=(hv HZ.out).form;rw [HZ.out];have hx7:Below w6.heap.size w6 w7:=hd6.trans hb7)
          | fail)
       have hy7:=hx6.trans (hx7.mono hx6.size)
       have HD:=Lib.hid (show Calls Tryd.prog 43 #[.int .i64 2,.slice A7 (valsN r).length c7] w7 fun e w'=>e=.returned (.agg #[.int .i64 2,.int .i64 (Z (valsN r) 0),.int .i64 (Z (valsN r) 1)])∧Below w7.heap.size w7 w' from c_deedOf 2 (valsN r) A7 c7 w7 hI7 hl2)
       have HY7:=Lib.hid hy7
       clear g0 g1 hx7 hy7 hb7 hd6 hx6 hv hI7 hl2
       go_wp2_with fail
       refine HD.out.mono ?_
       rintro e w8 ⟨rfl,hb8⟩
       have hy8:=HY7.out.trans (hb8.mono HY7.out.size)
       have b7:=(hy8.block w.heap.size (by omega)).trans ((hb1.block w.heap.size hz0).trans bR)
       obtain ⟨r0,r1,r2⟩:w8.cell? ⟨w.heap.size,0,none⟩=some (.int .i64 0)∧w8.cell? ⟨w.heap.size,1,none⟩=some (.int .i64 0)∧w8.cell? ⟨w.heap.size,2,none⟩=some (.int .i64 0):=⟨cell_of_row _ _ 0 _ _ _ b7,cell_of_row _ _ 1 _ _ _ b7,cell_of_row _ _ 2 _ _ _ b7⟩
       obtain ⟨f0,f1,f2⟩:w8.frozen? ⟨w.heap.size,0,none⟩=false∧w8.frozen? ⟨w.heap.size,1,none⟩=false∧w8.frozen? ⟨w.heap.size,2,none⟩=false:=⟨unfrozenB b7,unfrozenB b7,unfrozenB b7⟩
       have HY:=Lib.hid (hb0.trans ((hb1.trans (hy8.mono hz1)).mono (Nat.le_of_lt hz0)))
       clear hy8 hb8
       go_wp2_with fail
       obtain ⟨m0,m1,m2⟩:=put3 (.int .i64 2) (.int .i64 (Z (valsN r) 0)) (.int .i64 (Z (valsN r) 1)) b7
       refine bodyPost_ret (v:=.tuple #[.agg #[.int .i64 2,.int .i64 (Z (valsN r) 0),.int .i64 (Z (valsN r) 1)],.bool true]) (by simp [results,Tryd.f14,go_sem,m0,m1,m2]) rfl ?_
       exact ⟨by rw [HV.out,Z_vals,Z_vals];rfl,((HY.out.setCell (p:=⟨w.heap.size,0,none⟩) (Nat.le_refl _) _).setCell (p:=⟨w.heap.size,1,none⟩) (Nat.le_refl _) _).setCell (p:=⟨w.heap.size,2,none⟩) (Nat.le_refl _) _⟩
     ·have hne:((bs x).toList == [110,101,101,100])=false:=by
       rw [bs_list]
       cases h:(x == [110,101,101,100]) with
       | false=>rfl
       | true=>exact absurd (eq_of_beq h) hx
      have HNx:=Lib.hid (show ∀ j,j < 2+1->x≠wordJ j from fun j hj=>by
       rcases Nat.lt_succ_iff_lt_or_eq.1 hj with h | rfl
       ·exact HN.out j h
       ·exact hx)
      clear hx
      go_wp2_with fail
      obtain ⟨w5,hw5⟩:∃ w5,wr.alloc (.cells #[.string ⟨#[110,101,101,100]⟩,.int .i64 1] 54)=w5:=⟨_,rfl⟩
      have hb5:Below wr.heap.size wr w5:=by rw [<- hw5];exact (Below.refl _ wr).alloc (Nat.le_refl _) _
      have b5:w5.heap[wr.heap.size]?=some (.cells #[.string ⟨#[110,101,101,100]⟩,.int .i64 1] 54 (0,0)):=by rw [<- hw5];exact heap_alloc_new _ _
      rw [hw5]
      have hx5:=hbx.trans (hb5.mono hbx.size)
      have g0:=cell_of_row _ wr.heap.size 0 _ _ _ b5
      have d0:=(hx5.cell (p:=⟨w0.heap.size,0,none⟩) hlw).trans HW0.out
      go_quiet (fail)
      have HB6:=Lib.hid (show Below w2.heap.size w2 (w5.drewN nq) from hb.trans ((hb5.trans (Below.drewN (Below.refl wr.heap.size w5) nq)).mono hb.size))
      clear hw5 d0 g0 hb5 b5 hx5
      generalize w5.drewN nq=w6 at *
      go_wp2_with fail
      go_roundw
      case rel=>exact ⟨2+1,by omega,by go_num,HNx,HB6.out⟩
      case measure=>simp [intOf]
    ·have HNk:=Lib.hid (fun (W':World) (hb:Below w1.heap.size w1 W')=>show Calls Tryd.prog 42 #[.agg #[.string ⟨#[108,97,116,101,114]⟩,.int .i64 1],.slice (some ⟨w0.heap.size,1,none⟩) (n1 - 1) (n1 - 1)] W' fun e w'=>(∃ v,e=.returned (.tuple #[v,.bool (namesOk r 1)])∧(namesOk r 1=true->IO w' W'.heap.size v (valsN r)))∧Below W'.heap.size W' w' from HNum.out 1 ⟨#[108,97,116,101,114]⟩ W' hb)
     by_cases hx:x=wordJ 3
     ·have hne:((bs x).toList == [108,97,116,101,114])=true:=by rw [bs_list,hx];rfl
      have HC:=Lib.hid (show cutL 32 l=wordJ 3::r by rw [HCut.out,hx])
      clear hx
      go_wp2_with fail
      obtain ⟨w5,hw5⟩:∃ w5,wr.alloc (.cells #[.string ⟨#[108,97,116,101,114]⟩,.int .i64 1] 54)=w5:=⟨_,rfl⟩
      have hb5:Below wr.heap.size wr w5:=by rw [<- hw5];exact (Below.refl _ wr).alloc (Nat.le_refl _) _
      have b5:w5.heap[wr.heap.size]?=some (.cells #[.string ⟨#[108,97,116,101,114]⟩,.int .i64 1] 54 (0,0)):=by rw [<- hw5];exact heap_alloc_new _ _
      have hz5:wr.heap.size < w5.heap.size:=by rw [<- hw5];simp
      rw [hw5]
      have hx5:=hbx.trans (hb5.mono hbx.size)
      have g0:=cell_of_row _ wr.heap.size 0 _ _ _ b5
      have g1:=cell_of_row _ wr.heap.size 1 _ _ _ b5
      have d0:=(hx5.cell (p:=⟨w0.heap.size,0,none⟩) hlw).trans HW0.out
      go_quiet (fail)
      have HG:=Lib.hid (fun (W':World) (hb:Below w5.heap.size w5 W')=>show W'.cell? ⟨wr.heap.size,0,none⟩=some (.string ⟨#[108,97,116,101,114]⟩)∧W'.cell? ⟨wr.heap.size,1,none⟩=some (.int .i64 1) from ⟨(hb.cell (p:=⟨wr.heap.size,0,none⟩) hz5).trans g0,(hb.cell (p:=⟨wr.heap.size,1,none⟩) hz5).trans g1⟩)
      have hd5:Below w5.heap.size w5 w5.drew:=(Below.refl _ w5).drew
      clear hw5 d0 hb5 b5
      have hx6:=hx5.trans ((Below.drewN (Below.refl w5.heap.size w5) nq).mono hx5.size)
      have hz6:wr.heap.size < (w5.drewN nq).heap.size:=hz5
      have HG6:=Lib.hid (fun (W':World) (hb:Below (w5.drewN nq).heap.size (w5.drewN nq) W')=>HG.out W' ((Below.drewN (Below.refl w5.heap.size w5) nq).trans hb))
      clear g0 g1 hd5 HG hx5 hz5
      generalize w5.drewN nq=w6 at *
      have hd6:Below w6.heap.size w6 w6.drew:=(Below.refl _ w6).drew
      obtain ⟨g0,g1⟩:=HG6.out _ (Below.refl _ w6)
      cases hnm:namesOk r 1 with
      | false =>
       have HZ:=Lib.hid hnm
       have HV:=Lib.hid (read_bad (j:=3) (by omega) HC.out (show ¬ (r.length=numJ 3∧r.all dig2=true) from names_no hnm))
       clear hnm
       go_wp2_with fail
       go_region_held3 (fun W'=>W'.cell? ⟨wr.heap.size,0,none⟩=some (.string ⟨#[108,97,116,101,114]⟩)∧W'.cell? ⟨wr.heap.size,1,none⟩=some (.int .i64 1))
        (first
          | exact HG6.out _ hx7
          | go_keep)
        (first
          | (go_at_call 42;refine (HNk.out w6.drew (hx6.trans (hd6.mono hx6.size))).mono ?_;rintro e w7 ⟨⟨v,rfl,-⟩,hb7⟩;rw [HZ.out];have hx7:Below w6.heap.size w6 w7:=hd6.trans hb7)
          | fail)
       have hy7:=hx6.trans (hx7.mono hx6.size)
       have b7:=(hy7.block w.heap.size (by omega)).trans ((hb1.block w.heap.size hz0).trans bR)
       obtain ⟨r0,r1,r2⟩:w7.cell? ⟨w.heap.size,0,none⟩=some (.int .i64 0)∧w7.cell? ⟨w.heap.size,1,none⟩=some (.int .i64 0)∧w7.cell? ⟨w.heap.size,2,none⟩=some (.int .i64 0):=⟨cell_of_row _ _ 0 _ _ _ b7,cell_of_row _ _ 1 _ _ _ b7,cell_of_row _ _ 2 _ _ _ b7⟩
       obtain ⟨f0,f1,f2⟩:w7.frozen? ⟨w.heap.size,0,none⟩=false∧w7.frozen? ⟨w.heap.size,1,none⟩=false∧w7.frozen? ⟨w.heap.size,2,none⟩=false:=⟨unfrozenB b7,unfrozenB b7,unfrozenB b7⟩
       have HY:=Lib.hid (hb0.trans ((hb1.trans (hy7.mono hz1)).mono (Nat.le_of_lt hz0)))
       clear g0 g1 hx7 hy7 hb7 hd6 hx6
       go_wp2_with fail
       obtain ⟨m0,m1,m2⟩:=put3 (.int .i64 0) (.int .i64 0) (.int .i64 0) b7
       refine bodyPost_ret (v:=.tuple #[.agg #[.int .i64 0,.int .i64 0,.int .i64 0],.bool false]) (by simp [results,Tryd.f14,go_sem,m0,m1,m2]) rfl ?_
       exact ⟨by rw [HV.out];rfl,((HY.out.setCell (p:=⟨w.heap.size,0,none⟩) (Nat.le_refl _) _).setCell (p:=⟨w.heap.size,1,none⟩) (Nat.le_refl _) _).setCell (p:=⟨w.heap.size,2,none⟩) (Nat.le_refl _) _⟩
      | true =>
       have HZ:=Lib.hid hnm
       have hp:=names_parts hnm
       have HV:=Lib.hid (read_yes (j:=3) (by omega) HC.out (show r.length=numJ 3 from hp.1) hp.2)
       have hl2:(valsN r).length<=2:=by rw [valsN,List.length_map,hp.1];omega
       clear hnm hp
       go_wp2_with fail
       go_region_held3 (fun W'=>W'.cell? ⟨wr.heap.size,0,none⟩=some (.string ⟨#[108,97,116,101,114]⟩)∧W'.cell? ⟨wr.heap.size,1,none⟩=some (.int .i64 1))
        (first
          | exact HG6.out _ hx7
          | go_keep)
        (first
          | (go_at_call 42;refine (HNk.out w6.drew (hx6.trans (hd6.mono hx6.size))).mono ?_;rintro e w7 ⟨⟨v,rfl,hv⟩,hb7⟩;obtain ⟨A7,c7,rfl,-,-,hI7⟩:=(hv HZ.out).form;rw [HZ.out];have hx7:Below w6.heap.size w6 w7:=hd6.trans hb7)
          | fail)
       have hy7:=hx6.trans (hx7.mono hx6.size)
       have HD:=Lib.hid (show Calls Tryd.prog 43 #[.int .i64 3,.slice A7 (valsN r).length c7] w7 fun e w'=>e=.returned (.agg #[.int .i64 3,.int .i64 (Z (valsN r) 0),.int .i64 (Z (valsN r) 1)])∧Below w7.heap.size w7 w' from c_deedOf 3 (valsN r) A7 c7 w7 hI7 hl2)
       have HY7:=Lib.hid hy7
       clear g0 g1 hx7 hy7 hb7 hd6 hx6 hv hI7 hl2
       go_wp2_with fail
       refine HD.out.mono ?_
       rintro e w8 ⟨rfl,hb8⟩
       have hy8:=HY7.out.trans (hb8.mono HY7.out.size)
       have b7:=(hy8.block w.heap.size (by omega)).trans ((hb1.block w.heap.size hz0).trans bR)
       obtain ⟨r0,r1,r2⟩:w8.cell? ⟨w.heap.size,0,none⟩=some (.int .i64 0)∧w8.cell? ⟨w.heap.size,1,none⟩=some (.int .i64 0)∧w8.cell? ⟨w.heap.size,2,none⟩=some (.int .i64 0):=⟨cell_of_row _ _ 0 _ _ _ b7,cell_of_row _ _ 1 _ _ _ b7,cell_of_row _ _ 2 _ _ _ b7⟩
       obtain ⟨f0,f1,f2⟩:w8.frozen? ⟨w.heap.size,0,none⟩=false∧w8.frozen? ⟨w.heap.size,1,none⟩=false∧w8.frozen? ⟨w.heap.size,2,none⟩=false:=⟨unfrozenB b7,unfrozenB b7,unfrozenB b7⟩
       have HY:=Lib.hid (hb0.trans ((hb1.trans (hy8.mono hz1)).mono (Nat.le_of_lt hz0)))
       clear hy8 hb8
       go_wp2_with fail
       obtain ⟨m0,m1,m2⟩:=put3 (.int .i64 3) (.int .i64 (Z (valsN r) 0)) (.int .i64 (Z (valsN r) 1)) b7
       refine bodyPost_ret (v:=.tuple #[.agg #[.int .i64 3,.int .i64 (Z (valsN r) 0),.int .i64 (Z (valsN r) 1)],.bool true]) (by simp [results,Tryd.f14,go_sem,m0,m1,m2]) rfl ?_
       exact ⟨by rw [HV.out,Z_vals,Z_vals];rfl,((HY.out.setCell (p:=⟨w.heap.size,0,none⟩) (Nat.le_refl _) _).setCell (p:=⟨w.heap.size,1,none⟩) (Nat.le_refl _) _).setCell (p:=⟨w.heap.size,2,none⟩) (Nat.le_refl _) _⟩
     ·have hne:((bs x).toList == [108,97,116,101,114])=false:=by
       rw [bs_list]
       cases h:(x == [108,97,116,101,114]) with
       | false=>rfl
       | true=>exact absurd (eq_of_beq h) hx
      have HNx:=Lib.hid (show ∀ j,j < 3+1->x≠wordJ j from fun j hj=>by
       rcases Nat.lt_succ_iff_lt_or_eq.1 hj with h | rfl
       ·exact HN.out j h
       ·exact hx)
      clear hx
      go_wp2_with fail
      obtain ⟨w5,hw5⟩:∃ w5,wr.alloc (.cells #[.string ⟨#[108,97,116,101,114]⟩,.int .i64 1] 54)=w5:=⟨_,rfl⟩
      have hb5:Below wr.heap.size wr w5:=by rw [<- hw5];exact (Below.refl _ wr).alloc (Nat.le_refl _) _
      have b5:w5.heap[wr.heap.size]?=some (.cells #[.string ⟨#[108,97,116,101,114]⟩,.int .i64 1] 54 (0,0)):=by rw [<- hw5];exact heap_alloc_new _ _
      rw [hw5]
      have hx5:=hbx.trans (hb5.mono hbx.size)
      have g0:=cell_of_row _ wr.heap.size 0 _ _ _ b5
      have d0:=(hx5.cell (p:=⟨w0.heap.size,0,none⟩) hlw).trans HW0.out
      go_quiet (fail)
      have HB6:=Lib.hid (show Below w2.heap.size w2 (w5.drewN nq) from hb.trans ((hb5.trans (Below.drewN (Below.refl wr.heap.size w5) nq)).mono hb.size))
      clear hw5 d0 g0 hb5 b5 hx5
      generalize w5.drewN nq=w6 at *
      go_wp2_with fail
      go_roundw
      case rel=>exact ⟨3+1,by omega,by go_num,HNx,HB6.out⟩
      case measure=>simp [intOf]
    ·have HNk:=Lib.hid (fun (W':World) (hb:Below w1.heap.size w1 W')=>show Calls Tryd.prog 42 #[.agg #[.string ⟨#[98,97,99,107]⟩,.int .i64 0],.slice (some ⟨w0.heap.size,1,none⟩) (n1 - 1) (n1 - 1)] W' fun e w'=>(∃ v,e=.returned (.tuple #[v,.bool (namesOk r 0)])∧(namesOk r 0=true->IO w' W'.heap.size v (valsN r)))∧Below W'.heap.size W' w' from HNum.out 0 ⟨#[98,97,99,107]⟩ W' hb)
     by_cases hx:x=wordJ 4
     ·have hne:((bs x).toList == [98,97,99,107])=true:=by rw [bs_list,hx];rfl
      have HC:=Lib.hid (show cutL 32 l=wordJ 4::r by rw [HCut.out,hx])
      clear hx
      go_wp2_with fail
      obtain ⟨w5,hw5⟩:∃ w5,wr.alloc (.cells #[.string ⟨#[98,97,99,107]⟩,.int .i64 0] 54)=w5:=⟨_,rfl⟩
      have hb5:Below wr.heap.size wr w5:=by rw [<- hw5];exact (Below.refl _ wr).alloc (Nat.le_refl _) _
      have b5:w5.heap[wr.heap.size]?=some (.cells #[.string ⟨#[98,97,99,107]⟩,.int .i64 0] 54 (0,0)):=by rw [<- hw5];exact heap_alloc_new _ _
      have hz5:wr.heap.size < w5.heap.size:=by rw [<- hw5];simp
      rw [hw5]
      have hx5:=hbx.trans (hb5.mono hbx.size)
      have g0:=cell_of_row _ wr.heap.size 0 _ _ _ b5
      have g1:=cell_of_row _ wr.heap.size 1 _ _ _ b5
      have d0:=(hx5.cell (p:=⟨w0.heap.size,0,none⟩) hlw).trans HW0.out
      go_quiet (fail)
      have HG:=Lib.hid (fun (W':World) (hb:Below w5.heap.size w5 W')=>show W'.cell? ⟨wr.heap.size,0,none⟩=some (.string ⟨#[98,97,99,107]⟩)∧W'.cell? ⟨wr.heap.size,1,none⟩=some (.int .i64 0) from ⟨(hb.cell (p:=⟨wr.heap.size,0,none⟩) hz5).trans g0,(hb.cell (p:=⟨wr.heap.size,1,none⟩) hz5).trans g1⟩)
      have hd5:Below w5.heap.size w5 w5.drew:=(Below.refl _ w5).drew
      clear hw5 d0 hb5 b5
      have hx6:=hx5.trans ((Below.drewN (Below.refl w5.heap.size w5) nq).mono hx5.size)
      have hz6:wr.heap.size < (w5.drewN nq).heap.size:=hz5
      have HG6:=Lib.hid (fun (W':World) (hb:Below (w5.drewN nq).heap.size (w5.drewN nq) W')=>HG.out W' ((Below.drewN (Below.refl w5.heap.size w5) nq).trans hb))
      clear g0 g1 hd5 HG hx5 hz5
      generalize w5.drewN nq=w6 at *
      have hd6:Below w6.heap.size w6 w6.drew:=(Below.refl _ w6).drew
      obtain ⟨g0,g1⟩:=HG6.out _ (Below.refl _ w6)
      cases hnm:namesOk r 0 with
      | false =>
       have HZ:=Lib.hid hnm
       have HV:=Lib.hid (read_bad (j:=4) (by omega) HC.out (show ¬ (r.length=numJ 4∧r.all dig2=true) from names_no hnm))
       clear hnm
       go_wp2_with fail
       go_region_held3 (fun W'=>W'.cell? ⟨wr.heap.size,0,none⟩=some (.string ⟨#[98,97,99,107]⟩)∧W'.cell? ⟨wr.heap.size,1,none⟩=some (.int .i64 0))
        (first
          | exact HG6.out _ hx7
          | go_keep)
        (first
          | (go_at_call 42;refine (HNk.out w6.drew (hx6.trans (hd6.mono hx6.size))).mono ?_;rintro e w7 ⟨⟨v,rfl,-⟩,hb7⟩;rw [HZ.out];have hx7:Below w6.heap.size w6 w7:=hd6.trans hb7)
          | fail)
       have hy7:=hx6.trans (hx7.mono hx6.size)
       have b7:=(hy7.block w.heap.size (by omega)).trans ((hb1.block w.heap.size hz0).trans bR)
       obtain ⟨r0,r1,r2⟩:w7.cell? ⟨w.heap.size,0,none⟩=some (.int .i64 0)∧w7.cell? ⟨w.heap.size,1,none⟩=some (.int .i64 0)∧w7.cell? ⟨w.heap.size,2,none⟩=some (.int .i64 0):=⟨cell_of_row _ _ 0 _ _ _ b7,cell_of_row _ _ 1 _ _ _ b7,cell_of_row _ _ 2 _ _ _ b7⟩
       obtain ⟨f0,f1,f2⟩:w7.frozen? ⟨w.heap.size,0,none⟩=false∧w7.frozen? ⟨w.heap.size,1,none⟩=false∧w7.frozen? ⟨w.heap.size,2,none⟩=false:=⟨unfrozenB b7,unfrozenB b7,unfrozenB b7⟩
       have HY:=Lib.hid (hb0.trans ((hb1.trans (hy7.mono hz1)).mono (Nat.le_of_lt hz0)))
       clear g0 g1 hx7 hy7 hb7 hd6 hx6
       go_wp2_with fail
       obtain ⟨m0,m1,m2⟩:=put3 (.int .i64 0) (.int .i64 0) (.int .i64 0) b7
       refine bodyPost_ret (v:=.tuple #[.agg #[.int .i64 0,.int .i64 0,.int .i64 0],.bool false]) (by simp [results,Tryd.f14,go_sem,m0,m1,m2]) rfl ?_
       exact ⟨by rw [HV.out];rfl,((HY.out.setCell (p:=⟨w.heap.size,0,none⟩) (Nat.le_refl _) _).setCell (p:=⟨w.heap.size,1,none⟩) (Nat.le_refl _) _).setCell (p:=⟨w.heap.size,2,none⟩) (Nat.le_refl _) _⟩
      | true =>
       have HZ:=Lib.hid hnm
       have hp:=names_parts hnm
       have HV:=Lib.hid (read_yes (j:=4) (by omega) HC.out (show r.length=numJ 4 from hp.1) hp.2)
       have hl2:(valsN r).length<=2:=by rw [valsN,List.length_map,hp.1];omega
       clear hnm hp
       go_wp2_with fail
       go_region_held3 (fun W'=>W'.cell? ⟨wr.heap.size,0,none⟩=some (.string ⟨#[98,97,99,107]⟩)∧W'.cell? ⟨wr.heap.size,1,none⟩=some (.int .i64 0))
        (first
          | exact HG6.out _ hx7
          | go_keep)
        (first
          | (go_at_call 42;refine (HNk.out w6.drew (hx6.trans (hd6.mono hx6.size))).mono ?_;rintro e w7 ⟨⟨v,rfl,hv⟩,hb7⟩;obtain ⟨A7,c7,rfl,-,-,hI7⟩:=(hv HZ.out).form;rw [HZ.out];have hx7:Below w6.heap.size w6 w7:=hd6.trans hb7)
          | fail)
       have hy7:=hx6.trans (hx7.mono hx6.size)
       have HD:=Lib.hid (show Calls Tryd.prog 43 #[.int .i64 4,.slice A7 (valsN r).length c7] w7 fun e w'=>e=.returned (.agg #[.int .i64 4,.int .i64 (Z (valsN r) 0),.int .i64 (Z (valsN r) 1)])∧Below w7.heap.size w7 w' from c_deedOf 4 (valsN r) A7 c7 w7 hI7 hl2)
       have HY7:=Lib.hid hy7
       clear g0 g1 hx7 hy7 hb7 hd6 hx6 hv hI7 hl2
       go_wp2_with fail
       refine HD.out.mono ?_
       rintro e w8 ⟨rfl,hb8⟩
       have hy8:=HY7.out.trans (hb8.mono HY7.out.size)
       have b7:=(hy8.block w.heap.size (by omega)).trans ((hb1.block w.heap.size hz0).trans bR)
       obtain ⟨r0,r1,r2⟩:w8.cell? ⟨w.heap.size,0,none⟩=some (.int .i64 0)∧w8.cell? ⟨w.heap.size,1,none⟩=some (.int .i64 0)∧w8.cell? ⟨w.heap.size,2,none⟩=some (.int .i64 0):=⟨cell_of_row _ _ 0 _ _ _ b7,cell_of_row _ _ 1 _ _ _ b7,cell_of_row _ _ 2 _ _ _ b7⟩
       obtain ⟨f0,f1,f2⟩:w8.frozen? ⟨w.heap.size,0,none⟩=false∧w8.frozen? ⟨w.heap.size,1,none⟩=false∧w8.frozen? ⟨w.heap.size,2,none⟩=false:=⟨unfrozenB b7,unfrozenB b7,unfrozenB b7⟩
       have HY:=Lib.hid (hb0.trans ((hb1.trans (hy8.mono hz1)).mono (Nat.le_of_lt hz0)))
       clear hy8 hb8
       go_wp2_with fail
       obtain ⟨m0,m1,m2⟩:=put3 (.int .i64 4) (.int .i64 (Z (valsN r) 0)) (.int .i64 (Z (valsN r) 1)) b7
       refine bodyPost_ret (v:=.tuple #[.agg #[.int .i64 4,.int .i64 (Z (valsN r) 0),.int .i64 (Z (valsN r) 1)],.bool true]) (by simp [results,Tryd.f14,go_sem,m0,m1,m2]) rfl ?_
       exact ⟨by rw [HV.out,Z_vals,Z_vals];rfl,((HY.out.setCell (p:=⟨w.heap.size,0,none⟩) (Nat.le_refl _) _).setCell (p:=⟨w.heap.size,1,none⟩) (Nat.le_refl _) _).setCell (p:=⟨w.heap.size,2,none⟩) (Nat.le_refl _) _⟩
     ·have hne:((bs x).toList == [98,97,99,107])=false:=by
       rw [bs_list]
       cases h:(x == [98,97,99,107]) with
       | false=>rfl
       | true=>exact absurd (eq_of_beq h) hx
      have HNx:=Lib.hid (show ∀ j,j < 4+1->x≠wordJ j from fun j hj=>by
       rcases Nat.lt_succ_iff_lt_or_eq.1 hj with h | rfl
       ·exact HN.out j h
       ·exact hx)
      clear hx
      go_wp2_with fail
      obtain ⟨w5,hw5⟩:∃ w5,wr.alloc (.cells #[.string ⟨#[98,97,99,107]⟩,.int .i64 0] 54)=w5:=⟨_,rfl⟩
      have hb5:Below wr.heap.size wr w5:=by rw [<- hw5];exact (Below.refl _ wr).alloc (Nat.le_refl _) _
      have b5:w5.heap[wr.heap.size]?=some (.cells #[.string ⟨#[98,97,99,107]⟩,.int .i64 0] 54 (0,0)):=by rw [<- hw5];exact heap_alloc_new _ _
      rw [hw5]
      have hx5:=hbx.trans (hb5.mono hbx.size)
      have g0:=cell_of_row _ wr.heap.size 0 _ _ _ b5
      have d0:=(hx5.cell (p:=⟨w0.heap.size,0,none⟩) hlw).trans HW0.out
      go_quiet (fail)
      have HB6:=Lib.hid (show Below w2.heap.size w2 (w5.drewN nq) from hb.trans ((hb5.trans (Below.drewN (Below.refl wr.heap.size w5) nq)).mono hb.size))
      clear hw5 d0 g0 hb5 b5 hx5
      generalize w5.drewN nq=w6 at *
      go_wp2_with fail
      go_roundw
      case rel=>exact ⟨4+1,by omega,by go_num,HNx,HB6.out⟩
      case measure=>simp [intOf]
   ·have hk5:k=5:=by omega
    have HV:=Lib.hid (read_none HCut.out (fun j hj=>HN.out j (by omega)))
    subst hk5
    have b7:=(hbx.block w.heap.size (by omega)).trans ((hb1.block w.heap.size hz0).trans bR)
    obtain ⟨r0,r1,r2⟩:wr.cell? ⟨w.heap.size,0,none⟩=some (.int .i64 0)∧wr.cell? ⟨w.heap.size,1,none⟩=some (.int .i64 0)∧wr.cell? ⟨w.heap.size,2,none⟩=some (.int .i64 0):=⟨cell_of_row _ _ 0 _ _ _ b7,cell_of_row _ _ 1 _ _ _ b7,cell_of_row _ _ 2 _ _ _ b7⟩
    obtain ⟨f0,f1,f2⟩:wr.frozen? ⟨w.heap.size,0,none⟩=false∧wr.frozen? ⟨w.heap.size,1,none⟩=false∧wr.frozen? ⟨w.heap.size,2,none⟩=false:=⟨unfrozenB b7,unfrozenB b7,unfrozenB b7⟩
    have HY:=Lib.hid (hb0.trans ((hb1.trans (hbx.mono hz1)).mono (Nat.le_of_lt hz0)))
    go_wp2_with fail
    obtain ⟨m0,m1,m2⟩:=put3 (.int .i64 0) (.int .i64 0) (.int .i64 0) b7
    refine bodyPost_ret (v:=.tuple #[.agg #[.int .i64 0,.int .i64 0,.int .i64 0],.bool false]) (by simp [results,Tryd.f14,go_sem,m0,m1,m2]) rfl ?_
    exact ⟨by rw [HV.out];rfl,((HY.out.setCell (p:=⟨w.heap.size,0,none⟩) (Nat.le_refl _) _).setCell (p:=⟨w.heap.size,1,none⟩) (Nat.le_refl _) _).setCell (p:=⟨w.heap.size,2,none⟩) (Nat.le_refl _) _⟩
end Go.Proofs.YticccnkanihpnaaDoor

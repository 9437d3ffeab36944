import Derived.Test.YticccnkanihpnaaDoorQReadDeed1
import Derived.Test.YticccnkanihpnaaDoorQReadDeed2
import Derived.Test.YticccnkanihpnaaDoorQReadDeed3
import Derived.Test.YticccnkanihpnaaDoorQReadDeed5
import Derived.Test.YticccnkanihpnaaDoorQReadDeed7
import Derived.RegionCalls
import Derived.Lib.SliceRun
namespace Go.Proofs.YticccnkanihpnaaDoor
set_option linter.unusedVariables false
open Go.RowKit
attribute [local go_sem ↓] Go.wp_at_zero Go.wp_at_succ
theorem deed_laid (w:World) (k a b:Int):∃ w',w.alloc (.cells #[.int .i64 k,.int .i64 a,.int .i64 b] 24)=w'∧w'.heap.size=w.heap.size+1∧Below w.heap.size w w'∧∀ W,Below w'.heap.size w' W->(W.cell? ⟨w.heap.size,0,none⟩=some (.int .i64 k)∧W.cell? ⟨w.heap.size,1,none⟩=some (.int .i64 a)∧W.cell? ⟨w.heap.size,2,none⟩=some (.int .i64 b)):=by
 refine ⟨_,rfl,by simp,(Below.refl _ w).alloc (Nat.le_refl _) _,fun W hb=>?_⟩
 have h:=(hb.block w.heap.size (by simp)).trans (heap_alloc_new w (.cells #[.int .i64 k,.int .i64 a,.int .i64 b] 24))
 exact ⟨cell_of_row _ _ 0 _ _ _ h,cell_of_row _ _ 1 _ _ _ h,cell_of_row _ _ 2 _ _ _ h⟩
end Go.Proofs.YticccnkanihpnaaDoor
namespace Go.Proofs.YticccnkanihpnaaDoor
set_option linter.unusedVariables false
open Go.RowKit
attribute [local go_sem ↓] Go.wp_at_zero Go.wp_at_succ
theorem readV_form (s:List UInt8):∃ (d:DV) (b:Bool),readV (readD s)=.tuple #[.agg #[.int .i64 d.k,.int .i64 d.a,.int .i64 d.b],.bool b]∧(b=true->readD s=some d)∧(b=false->d=⟨0,0,0⟩):=by
 cases h:readD s with
 | some d=>exact ⟨d,true,rfl,fun _=>rfl,nofun⟩
 | none=>exact ⟨⟨0,0,0⟩,false,rfl,nofun,fun _=>rfl⟩
theorem bs_of (s:ByteArray):s=bs s.data.toList:=by
 apply ByteArray.ext
 simp [bs]
set_option maxRecDepth 8000 in
set_option maxHeartbeats 4000000 in
theorem w_FnReadDeed (A:Option Addr) (n c:Nat) (w:World) (h:Bs w w.heap.size A n) (hc:n<=c) (hV:LV w w.heap.size) :
  Calls Tryd.prog 4 #[.slice A n c] w fun e w'=>e=.returned (.bool true)∧Below w.heap.size w w':=by
 by_cases hn:n<=1048576
 ·go_enter Tryd.func4,Tryd.ntmps4
  go_wp2_with fail
  refine (c_DrawReadDeed A n c _ h hn hc).mono ?_
  rintro e w1 ⟨s0,rfl,hs0,hb1⟩
  have hs1:=hb1.size
  obtain ⟨s,rfl⟩:∃ s,s0=bs s:=⟨_,bs_of s0⟩
  rw [bs_size] at hs0
  obtain ⟨d,o,hrv,hro,hrf⟩:=readV_form s
  have HVV:=Lib.hid hV
  have HI:=Lib.hid (show Calls Tryd.prog 14 #[.string (bs s)] w1 fun e w'=>e=.returned (.tuple #[.agg #[.int .i64 d.k,.int .i64 d.a,.int .i64 d.b],.bool o])∧Below w1.heap.size w1 w' from by
   have K:=c_iReadDeed s (by omega) w1 (hV.at hb1)
   rw [hrv] at K
   exact K)
  have HS:=Lib.hid (fun W=>show Calls Tryd.prog 16 #[.string (bs s)] W fun e w'=>e=.returned (.tuple #[.agg #[.int .i64 d.k,.int .i64 d.a,.int .i64 d.b],.bool o])∧Below W.heap.size W w' from by
   have K:=c_sReadDeed s (by omega) W
   rw [hrv] at K
   exact K)
  have HW:=Lib.hid (fun W (hW:LV W W.heap.size)=>show Calls Tryd.prog 14 #[.string (bs (s++[32]))] W fun e w'=>e=.returned (.tuple #[.agg #[.int .i64 0,.int .i64 0,.int .i64 0],.bool false])∧Below W.heap.size W w' from by
   have K:=c_iReadDeed (s++[32]) (by simp;omega) W hW
   rw [read_space] at K
   exact K)
  have hap:bs s++⟨#[32]⟩=bs (s++[32]):=bs_append s [32]
  have hsz:¬ ((bs s).size+1 > 9223372036854775807):=by rw [bs_size];omega
  obtain ⟨dk,da,db⟩:=d
  simp only at HI HS hrv
  have Hro:=Lib.hid hro
  have Hrf:=Lib.hid hrf
  clear h hrv hro hrf
  go_wp2_with fail
  refine HI.out.mono ?_
  rintro e w2 ⟨rfl,hb2⟩
  have hx2:=hb1.trans (hb2.mono hs1)
  obtain ⟨w3,hw3,hz3,hb3,HC3⟩:=deed_laid w2 dk da db
  have hx3:=hx2.trans (hb3.mono hx2.size)
  have HC3:=Lib.hid HC3
  clear hb1 hb2 hb3 hx2
  go_wp2_with fail
  clear hw3
  refine (HS.out _).mono ?_
  rintro e w4 ⟨rfl,hb4⟩
  obtain ⟨w5,hw5,hz5,hb5,HC5⟩:=deed_laid w4 dk da db
  have hb35:Below w3.heap.size w3 w5:=hb4.trans (hb5.mono hb4.size)
  have hx5:=hx3.trans (hb35.mono hx3.size)
  obtain ⟨q0,q1,q2⟩:=HC3.out _ hb35
  obtain ⟨q3,q4,q5⟩:=HC5 _ (Below.refl _ w5)
  have e1:(dk == dk)=true:=by simp
  have e2:(da == da)=true:=by simp
  have e3:(db == db)=true:=by simp
  have e4:(dk != dk)=false:=by simp
  have e5:(da != da)=false:=by simp
  have e6:(db != db)=false:=by simp
  have e7:(o != o)=false:=by cases o <;> rfl
  cases o with
  | false =>
   have hz:=Hrf.out rfl
   injection hz with z1 z2 z3
   have f1:(dk == 0)=true:=beq_iff_eq.2 z1
   have f2:(da == 0)=true:=beq_iff_eq.2 z2
   have f3:(db == 0)=true:=beq_iff_eq.2 z3
   clear z1 z2 z3
   go_wp2_with fail
   refine (c_alive _).mono ?_
   rintro e w6 ⟨rfl,hb6⟩
   go_wp2_with fail
   go_ret
   exact ⟨rfl,hx5.trans (hb6.mono hx5.size)⟩
  | true =>
   have hrd:=Hro.out rfl
   have HT:=Lib.hid (fun W=>show Calls Tryd.prog 11 #[.agg #[.int .i64 dk,.int .i64 da,.int .i64 db]] W fun e w'=>e=.returned (.string (bs s))∧Below W.heap.size W w' from by
    have K:=c_iDeedText dk da db W
    rw [(read_text hrd).1] at K
    exact K)
   clear hrd
   have HW5:=Lib.hid (HW.out _ (HVV.out.at hx5))
   go_wp2_with fail
   clear hw5
   refine HW5.out.mono ?_
   rintro e w6 ⟨rfl,hb6⟩
   clear q0 q1 q2 q3 q4 q5
   have hb57:Below w5.heap.size w5 (w6.alloc (.cells #[.int .i64 0,.int .i64 0,.int .i64 0] 24)):=hb6.alloc hb6.size _
   obtain ⟨q0,q1,q2⟩:=HC3.out _ (hb35.trans (hb57.mono hb35.size))
   have hx7:=hx5.trans (hb57.mono hx5.size)
   have hqq:((bs s).toList == (bs s).toList)=true:=by simp
   go_wp2_with fail
   refine (HT.out _).mono ?_
   rintro e w8 ⟨rfl,hb8⟩
   go_wp2_with fail
   go_ret
   exact ⟨rfl,hx7.trans (hb8.mono hx7.size)⟩
 ·have hn':(1048576:Int) < (n:Int):=by omega
  go_enter Tryd.func4,Tryd.ntmps4
  go_wp2_with fail
  go_ret
  exact ⟨rfl,Below.refl _ _⟩
end Go.Proofs.YticccnkanihpnaaDoor

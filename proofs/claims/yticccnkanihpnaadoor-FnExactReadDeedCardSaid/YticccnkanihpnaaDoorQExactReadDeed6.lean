import Derived.Test.YticccnkanihpnaaDoorQExactReadDeed1
import Derived.Test.YticccnkanihpnaaDoorQExactReadDeed2
import Derived.Test.YticccnkanihpnaaDoorQExactReadDeed3
import Derived.Test.YticccnkanihpnaaDoorQExactReadDeed5
import Derived.RegionCalls
import Derived.Lib.SliceRun
import Derived.Deep.CutRange
import Derived.Deep.CutBlock
import Derived.ArgAppend
namespace Go.Proofs.YticccnkanihpnaaDoor
set_option linter.unusedVariables false
open Go.RowKit
attribute [local go_sem ↓] Go.wp_at_zero Go.wp_at_succ
set_option maxHeartbeats 1000000 in
theorem c_eqDeed (k a b:Int) (w:World) :
  Calls Tryd.prog 23 #[.agg #[.int .i64 k,.int .i64 a,.int .i64 b],.agg #[.int .i64 k,.int .i64 a,.int .i64 b]] w fun e w'=>e=.returned (.bool true)∧Below w.heap.size w w':=by
 go_enter Tryd.func23,Tryd.ntmps23
 go_wp2
 go_ret
 exact ⟨rfl,by (repeat (first | exact rfl | exact Below.refl _ _ | (with_reducible refine Below.drew ?_) | (with_reducible refine Below.drewN ?_ _) | (with_reducible refine Below.alloc ?_ ?_ _) | (with_reducible refine Below.setCell ?_ ?_ _) | (show _<=_;focus (first | omega | (simp;done) | (simp;omega)))))⟩
end Go.Proofs.YticccnkanihpnaaDoor
namespace Go.Proofs.YticccnkanihpnaaDoor
set_option linter.unusedVariables false
open Go.RowKit
attribute [local go_sem ↓] Go.wp_at_zero Go.wp_at_succ
structure DdAt (w wx:World) (base r B q:Nat) (k a b:Int):Prop where
 deed:wx.heap[B]?=some (.cells #[.int .i64 k,.int .i64 a,.int .i64 b] 24 (0,0))
 res:wx.heap[w.heap.size]?=some (.cells #[.int .i64 0,.int .i64 0,.int .i64 0] 24 (0,0))
 grown:w.grownBy wx (some r)
 rd:Rd wx base r q
 hr:r < w.heap.size
 hB:w.heap.size < B
theorem DdAt.below {w wx w':World} {base r B q:Nat} {k a b:Int} (h:DdAt w wx base r B q k a b) (hb:Below wx.heap.size wx w'):DdAt w w' base r B q k a b:=by
 have h1:=h.hr
 have h2:=h.hB
 have h3:=h.grown.size
 have h4:=h.rd.1
 exact ⟨(hb.block _ (Array.getElem?_eq_some_iff.1 h.deed).1).trans h.deed,(hb.block _ (Array.getElem?_eq_some_iff.1 h.res).1).trans h.res,grown_thenB h.grown (hb.mono h3),h.rd.keepB hb (by omega) (by omega),h.hr,h.hB⟩
theorem DdAt.cells {w wx:World} {base r B q:Nat} {k a b:Int} (h:DdAt w wx base r B q k a b):wx.cell? ⟨B,0,none⟩=some (.int .i64 k)∧wx.cell? ⟨B,1,none⟩=some (.int .i64 a)∧wx.cell? ⟨B,2,none⟩=some (.int .i64 b)∧wx.frozen? ⟨B,1,none⟩=false∧wx.frozen? ⟨B,2,none⟩=false :=
 ⟨cell_of_row _ B 0 _ _ _ h.deed,cell_of_row _ B 1 _ _ _ h.deed,cell_of_row _ B 2 _ _ _ h.deed,unfrozen_of h.deed,unfrozen_of h.deed⟩
end Go.Proofs.YticccnkanihpnaaDoor
namespace Go.Proofs.YticccnkanihpnaaDoor
set_option linter.unusedVariables false
open Go.RowKit
attribute [local go_sem ↓] Go.wp_at_zero Go.wp_at_succ
theorem deed_laid (w:World) (k a b:Int):∃ w',w.alloc (.cells #[.int .i64 k,.int .i64 a,.int .i64 b] 24)=w'∧w'.heap.size=w.heap.size+1∧Below w.heap.size w w'∧∀ W,Below w'.heap.size w' W->(W.cell? ⟨w.heap.size,0,none⟩=some (.int .i64 k)∧W.cell? ⟨w.heap.size,1,none⟩=some (.int .i64 a)∧W.cell? ⟨w.heap.size,2,none⟩=some (.int .i64 b)):=by
 refine ⟨_,rfl,by simp,(Below.refl _ w).alloc (Nat.le_refl _) _,fun W hb=>?_⟩
 have h:=(hb.block w.heap.size (by simp)).trans (heap_alloc_new w (.cells #[.int .i64 k,.int .i64 a,.int .i64 b] 24))
 exact ⟨cell_of_row _ _ 0 _ _ _ h,cell_of_row _ _ 1 _ _ _ h,cell_of_row _ _ 2 _ _ _ h⟩
end Go.Proofs.YticccnkanihpnaaDoor
namespace Go.Proofs.YticccnkanihpnaaDoor
set_option linter.unusedVariables false
open Go.RowKit
attribute [local go_sem ↓] Go.wp_at_zero Go.wp_at_succ
theorem readV_form (s:List UInt8):∃ (d:DV) (b:Bool),readV (readD s)=.tuple #[.agg #[.int .i64 d.k,.int .i64 d.a,.int .i64 d.b],.bool b]∧(b=true->readD s=some d)∧(b=false->d=⟨0,0,0⟩):=by
 cases h:readD s with
 | some d=>exact ⟨d,true,rfl,fun _=>rfl,nofun⟩
 | none=>exact ⟨⟨0,0,0⟩,false,rfl,nofun,fun _=>rfl⟩
theorem bs_of (s:ByteArray):s=bs s.data.toList:=by
 apply ByteArray.ext
 simp [bs]
end Go.Proofs.YticccnkanihpnaaDoor
namespace Go.Proofs.YticccnkanihpnaaDoor
set_option linter.unusedVariables false
open Go.RowKit
attribute [local go_sem ↓] Go.wp_at_zero Go.wp_at_succ
set_option maxRecDepth 8000 in
set_option maxHeartbeats 2000000 in
theorem w_FnExactReadDeed (s:ByteArray) (w:World) (hV:LV w w.heap.size) :
  Calls Tryd.prog 7 #[.string s] w fun e w'=>e=.returned (.bool true)∧Below w.heap.size w w':=by
 obtain ⟨l,rfl⟩:∃ l,s=bs l:=⟨_,bs_of s⟩
 have hsz:=bs_size l
 by_cases hn:l.length<=1048576
 ·have hn':¬ (1048576:Int) < ((bs l).size:Int):=by rw [hsz];omega
  obtain ⟨⟨dk,da,db⟩,o,hrv,-,-⟩:=readV_form l
  simp only at hrv
  have HVV:=Lib.hid hV
  have HI:=Lib.hid (fun W (hW:LV W W.heap.size)=>show Calls Tryd.prog 14 #[.string (bs l)] W fun e w'=>e=.returned (.tuple #[.agg #[.int .i64 dk,.int .i64 da,.int .i64 db],.bool o])∧Below W.heap.size W w' from by
   have K:=c_iReadDeed l (by omega) W hW
   rw [hrv] at K
   exact K)
  have HS:=Lib.hid (fun W=>show Calls Tryd.prog 16 #[.string (bs l)] W fun e w'=>e=.returned (.tuple #[.agg #[.int .i64 dk,.int .i64 da,.int .i64 db],.bool o])∧Below W.heap.size W w' from by
   have K:=c_sReadDeed l (by omega) W
   rw [hrv] at K
   exact K)
  have HE:=Lib.hid (fun W=>c_eqDeed dk da db W)
  have e7:(o != o)=false:=by cases o <;> rfl
  clear hrv hsz
  go_enter Tryd.func7,Tryd.ntmps7
  go_wp2_with fail
  refine (HS.out _).mono ?_
  rintro e w2 ⟨rfl,hb2⟩
  obtain ⟨w3,hw3,hz3,hb3,HC3⟩:=deed_laid w2 dk da db
  have hx3:=hb2.trans (hb3.mono hb2.size)
  go_wp2_with fail
  clear hw3
  refine (HI.out _ (HVV.out.at hx3)).mono ?_
  rintro e w4 ⟨rfl,hb4⟩
  obtain ⟨w5,hw5,hz5,hb5,HC5⟩:=deed_laid w4 dk da db
  have hb35:Below w3.heap.size w3 w5:=hb4.trans (hb5.mono hb4.size)
  have hx5:=hx3.trans (hb35.mono hx3.size)
  obtain ⟨q0,q1,q2⟩:=HC3 _ hb35
  obtain ⟨q3,q4,q5⟩:=HC5 _ (Below.refl _ w5)
  go_wp2_with fail
  clear hw5
  refine (HE.out _).mono ?_
  rintro e w6 ⟨rfl,hb6⟩
  go_wp2_with fail
  go_ret
  exact ⟨rfl,hx5.trans (hb6.mono hx5.size)⟩
 ·have hn':(1048576:Int) < ((bs l).size:Int):=by rw [hsz];omega
  go_enter Tryd.func7,Tryd.ntmps7
  go_wp2_with fail
  go_ret
  exact ⟨rfl,Below.refl _ _⟩
end Go.Proofs.YticccnkanihpnaaDoor

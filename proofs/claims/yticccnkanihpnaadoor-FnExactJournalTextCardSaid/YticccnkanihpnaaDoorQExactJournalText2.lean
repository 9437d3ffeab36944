import Derived.Test.YticccnkanihpnaaDoorQExactJournalText1
import Derived.Lib.LaidTab
import Derived.Lib.ItoaNum
import Derived.Below
import Derived.RegionCalls
import Derived.Lib.SliceRun
import Derived.Shelf.Strings.Builder1
import Derived.Shelf.Strings.BuilderF
import Derived.Shelf.Strings.BuilderK
import Derived.Shelf.Strconv.Atoi
import Derived.Shelf.Strconv.Itoa0
import Derived.Shelf.Strconv.Itoa1
import Derived.Shelf.LaysM
import Derived.Shelf.Strconv.Itoa2
import Derived.Shelf.Strconv.Itoa3
import Derived.Shelf.Strconv.AtoiErrFast
import Derived.Shelf.Strconv.ParseIntEmpty
import Derived.Shelf.Strconv.AtoiFail
import Derived.Shelf.Strconv.Clone
import Derived.Shelf.Strconv.SyntaxError
import Derived.Shelf.LaysC
import Derived.Shelf.Strconv.ToError
import Derived.Shelf.Strconv.AtoiErr
import Derived.Shelf.Strconv.ErrVar
import Derived.Shelf.Strconv.Lower
import Derived.Shelf.Strconv.ParseUint10
import Derived.Shelf.Strconv.ParseUint10Empty
import Derived.Shelf.Strconv.ParseUint10Any
import Derived.Shelf.Strconv.ParseInt10
import Derived.Shelf.Strconv.AtoiLong
import Derived.Shelf.Strconv.AtoiInnerAll
import Derived.Shelf.Strconv.RangeError
import Derived.Shelf.Strconv.ToErrorRange
import Derived.Shelf.Strconv.AtoiAll
import Derived.Shelf.Strconv.ErrVarAll
import Derived.Shelf.Strings.Search1
import Derived.Shelf.Strings.Search2
import Derived.Shelf.Strings.Search3
import Derived.Shelf.Strings.Cut
import Derived.Shelf.Strings.Count
import Derived.Shelf.Strings.Shaped
import Derived.Shelf.Strings.Split
import Derived.Shelf.Strings.SplitShaped
import Derived.Shelf.Unicode.DecodeSlow
import Derived.Test.YticccnkanihpnaaDoorProg
import Derived.Lib.IndexMore
import Derived.Lib.Join
import Derived.Lib.Atoi
import Derived.Lib.SplitLaws
namespace Go.Proofs.YticccnkanihpnaaDoor
set_option linter.unusedVariables false
open Go.RowKit
attribute [local go_sem ↓] Go.wp_at_zero Go.wp_at_succ
theorem deedL_come {a b:Int} (ha:0<=a∧a<=99) (hb:0<=b∧b<=99):deedL ⟨0,a,b⟩=wCome++[32]++numL a.toNat++[32]++numL b.toNat:=by rw [deedL,if_pos ⟨rfl,ha,hb⟩]
theorem deedL_none {k a b:Int} (h0:¬ (k=0∧(0<=a∧a<=99)∧(0<=b∧b<=99))) (h2:¬ (k=2∧(0<=a∧a<=99)∧b=0)) (h3:¬ (k=3∧(0<=a∧a<=99)∧b=0))
  (h1:¬ (k=1∧a=0∧b=0)) (h4:¬ (k=4∧a=0∧b=0)):deedL ⟨k,a,b⟩=[]:=by
 rw [deedL,if_neg h0,if_neg h2,if_neg h3,if_neg (by simpa using h1),if_neg (by simpa using h4)]
theorem deedL_need {a:Int} (ha:0<=a∧a<=99):deedL ⟨2,a,0⟩=wNeed++[32]++numL a.toNat:=by rw [deedL,if_neg (by simp),if_pos ⟨rfl,ha,rfl⟩]
theorem deedL_later {a:Int} (ha:0<=a∧a<=99):deedL ⟨3,a,0⟩=wLater++[32]++numL a.toNat:=by rw [deedL,if_neg (by simp),if_neg (by simp),if_pos ⟨rfl,ha,rfl⟩]
theorem num_size {n:Nat} (h:n<=99):(bs (numL n)).size<=2:=by rw [bs_size];exact numL_len 1 n (by omega)
set_option maxRecDepth 8000 in
set_option maxHeartbeats 4000000 in
theorem c_sDeedGo  (w:World) :
  Calls Tryd.prog 12 #[.agg #[.int .i64 1,.int .i64 0,.int .i64 0]] w fun e w'=>e=.returned (.string (bs (deedL ⟨1,0,0⟩)))∧Below w.heap.size w w':=by
 have hbz:Below w.heap.size w (w.alloc (.cells #[.int .i64 1,.int .i64 0,.int .i64 0] 24)):=by (repeat (first | exact rfl | exact Below.refl _ _ | (with_reducible refine Below.drew ?_) | (with_reducible refine Below.drewN ?_ _) | (with_reducible refine Below.alloc ?_ ?_ _) | (with_reducible refine Below.setCell ?_ ?_ _) | (show _<=_;focus (first | omega | (simp;done) | (simp;omega)))))
 go_enter Tryd.func12,Tryd.ntmps12
 go_wp2_with fail
 go_ret
 exact ⟨rfl,hbz⟩
set_option maxRecDepth 8000 in
set_option maxHeartbeats 4000000 in
theorem c_sDeedBack  (w:World) :
  Calls Tryd.prog 12 #[.agg #[.int .i64 4,.int .i64 0,.int .i64 0]] w fun e w'=>e=.returned (.string (bs (deedL ⟨4,0,0⟩)))∧Below w.heap.size w w':=by
 have hbz:Below w.heap.size w (w.alloc (.cells #[.int .i64 4,.int .i64 0,.int .i64 0] 24)):=by (repeat (first | exact rfl | exact Below.refl _ _ | (with_reducible refine Below.drew ?_) | (with_reducible refine Below.drewN ?_ _) | (with_reducible refine Below.alloc ?_ ?_ _) | (with_reducible refine Below.setCell ?_ ?_ _) | (show _<=_;focus (first | omega | (simp;done) | (simp;omega)))))
 go_enter Tryd.func12,Tryd.ntmps12
 go_wp2_with fail
 go_ret
 exact ⟨rfl,hbz⟩
set_option maxRecDepth 8000 in
set_option maxHeartbeats 4000000 in
theorem c_sDeedCome (an bn:Nat) (han:an<=99) (hbn:bn<=99) (w:World) :
  Calls Tryd.prog 12 #[.agg #[.int .i64 0,.int .i64 (an:Int),.int .i64 (bn:Int)]] w fun e w'=>e=.returned (.string (bs (deedL ⟨0,(an:Int),(bn:Int)⟩)))∧Below w.heap.size w w':=by
 have HA:=Lib.hid (fun W=>c_l1In (an:Int) 0 99 W)
 have DA:=Lib.hid (show decide (0<=(an:Int)∧(an:Int)<=99)=true from decide_eq_true (by omega))
 have HN:=Lib.hid (fun W=>c_sNumber an W (by omega))
 have HV:=Lib.hid (deedL_come (a:=(an:Int)) (b:=(bn:Int)) (by omega) (by omega))
 have z1:=num_size (n:=an) (by omega)
 have z2:=num_size (n:=bn) (by omega)
 have HK:=Lib.hid (fun (n:Nat) W (h:n<=99)=>c_sNumber n W (by omega))
 have HB:=Lib.hid (fun W=>c_l1In (bn:Int) 0 99 W)
 have DB:=Lib.hid (show decide (0<=(bn:Int)∧(bn:Int)<=99)=true from decide_eq_true (by omega))
 have hb1:Below w.heap.size w (w.alloc (.cells #[.int .i64 0,.int .i64 (an:Int),.int .i64 (bn:Int)] 24)):=by (repeat (first | exact rfl | exact Below.refl _ _ | (with_reducible refine Below.drew ?_) | (with_reducible refine Below.drewN ?_ _) | (with_reducible refine Below.alloc ?_ ?_ _) | (with_reducible refine Below.setCell ?_ ?_ _) | (show _<=_;focus (first | omega | (simp;done) | (simp;omega)))))
 have c0:=World.cell?_alloc_mark w #[.int .i64 0,.int .i64 (an:Int),.int .i64 (bn:Int)] 24 (0,0) 0
 have c1:=World.cell?_alloc_mark w #[.int .i64 0,.int .i64 (an:Int),.int .i64 (bn:Int)] 24 (0,0) 1
 have c2:=World.cell?_alloc_mark w #[.int .i64 0,.int .i64 (an:Int),.int .i64 (bn:Int)] 24 (0,0) 2
 have hsz:w.heap.size < (w.alloc (.cells #[.int .i64 0,.int .i64 (an:Int),.int .i64 (bn:Int)] 24)).heap.size:=by simp
 have C1:=Lib.hid c1
 have C2:=Lib.hid c2
 clear c0 c1 c2
 go_enter Tryd.func12,Tryd.ntmps12
 go_wp2_with fail
 refine (HA.out _).mono ?_
 rintro e w1 ⟨rfl,rfl⟩
 rw [DA.out]
 go_wp2_with fail
 refine (HB.out _).mono ?_
 rintro e w1 ⟨rfl,rfl⟩
 rw [DB.out]
 go_wp2_with fail
 have c1:=C1.out
 have c2:=C2.out
 generalize w.alloc (.cells #[.int .i64 0,.int .i64 (an:Int),.int .i64 (bn:Int)] 24)=w1 at *
 have g1:=WB.cell (w:=w1) hsz c1
 have g2:=WB.cell (w:=w1) hsz c2
 clear c1 c2 C1 C2
 have y1:¬ (({ data:=#[99,111,109,101,32] }:ByteArray).size+(bs (numL an)).size > 9223372036854775807):=by show ¬ (5+_ > _);omega
 have y2:¬ (9223372036854775807 < 5+(bs (numL an)).size):=by omega
 have y3:¬ (9223372036854775807 < 5+(bs (numL an)).size+1):=by omega
 have y4:¬ (9223372036854775807 < 5+(bs (numL an)).size+1+(bs (numL bn)).size):=by omega
 refine wp_region_wb w1.heap.size (by kernel_rfl) (by kernel_rfl) ?_
 repeat (go_big_quiet_step ((go_at_call 38;exact Calls.inB (Nat.le_refl _) (HK.out _ _ (by omega)))))
 refine wpQuiet_nil ?_
 rintro w2 ⟨⟨_,hb2⟩,rfl⟩
 clear g1 g2 y1 y2 y3 y4
 go_wp2_with fail
 go_ret
 exact ⟨by rw [HV.out,<- bs_append,<- bs_append,<- bs_append,<- bs_append,Int.toNat_natCast,Int.toNat_natCast];rfl,hb1.trans (hb2.mono hb1.size)⟩
set_option maxRecDepth 8000 in
set_option maxHeartbeats 4000000 in
theorem c_sDeedNeed (an:Nat) (han:an<=99) (w:World) :
  Calls Tryd.prog 12 #[.agg #[.int .i64 2,.int .i64 (an:Int),.int .i64 0]] w fun e w'=>e=.returned (.string (bs (deedL ⟨2,(an:Int),0⟩)))∧Below w.heap.size w w':=by
 have HA:=Lib.hid (fun W=>c_l1In (an:Int) 0 99 W)
 have DA:=Lib.hid (show decide (0<=(an:Int)∧(an:Int)<=99)=true from decide_eq_true (by omega))
 have HN:=Lib.hid (fun W=>c_sNumber an W (by omega))
 have HV:=Lib.hid (deedL_need (a:=(an:Int)) (by omega))
 have z1:=num_size (n:=an) (by omega)
 have hb1:Below w.heap.size w (w.alloc (.cells #[.int .i64 2,.int .i64 (an:Int),.int .i64 0] 24)):=by (repeat (first | exact rfl | exact Below.refl _ _ | (with_reducible refine Below.drew ?_) | (with_reducible refine Below.drewN ?_ _) | (with_reducible refine Below.alloc ?_ ?_ _) | (with_reducible refine Below.setCell ?_ ?_ _) | (show _<=_;focus (first | omega | (simp;done) | (simp;omega)))))
 have c0:=World.cell?_alloc_mark w #[.int .i64 2,.int .i64 (an:Int),.int .i64 0] 24 (0,0) 0
 have c1:=World.cell?_alloc_mark w #[.int .i64 2,.int .i64 (an:Int),.int .i64 0] 24 (0,0) 1
 have c2:=World.cell?_alloc_mark w #[.int .i64 2,.int .i64 (an:Int),.int .i64 0] 24 (0,0) 2
 have hsz:w.heap.size < (w.alloc (.cells #[.int .i64 2,.int .i64 (an:Int),.int .i64 0] 24)).heap.size:=by simp
 have C1:=Lib.hid c1
 have C2:=Lib.hid c2
 clear c0 c1 c2
 go_enter Tryd.func12,Tryd.ntmps12
 go_wp2_with fail
 refine (HA.out _).mono ?_
 rintro e w1 ⟨rfl,rfl⟩
 rw [DA.out]
 go_wp2_with fail
 refine (HN.out _).mono ?_
 rintro e w2 ⟨rfl,hb2⟩
 have hx:=hb1.trans (hb2.mono hb1.size)
 have y2:¬ (9223372036854775807 < 5+(bs (numL an)).size):=by omega
 clear C1 C2
 go_wp2_with fail
 go_ret
 exact ⟨by rw [HV.out,<- bs_append,<- bs_append,Int.toNat_natCast];rfl,hx⟩
set_option maxRecDepth 8000 in
set_option maxHeartbeats 4000000 in
theorem c_sDeedLater (an:Nat) (han:an<=99) (w:World) :
  Calls Tryd.prog 12 #[.agg #[.int .i64 3,.int .i64 (an:Int),.int .i64 0]] w fun e w'=>e=.returned (.string (bs (deedL ⟨3,(an:Int),0⟩)))∧Below w.heap.size w w':=by
 have HA:=Lib.hid (fun W=>c_l1In (an:Int) 0 99 W)
 have DA:=Lib.hid (show decide (0<=(an:Int)∧(an:Int)<=99)=true from decide_eq_true (by omega))
 have HN:=Lib.hid (fun W=>c_sNumber an W (by omega))
 have HV:=Lib.hid (deedL_later (a:=(an:Int)) (by omega))
 have z1:=num_size (n:=an) (by omega)
 have hb1:Below w.heap.size w (w.alloc (.cells #[.int .i64 3,.int .i64 (an:Int),.int .i64 0] 24)):=by (repeat (first | exact rfl | exact Below.refl _ _ | (with_reducible refine Below.drew ?_) | (with_reducible refine Below.drewN ?_ _) | (with_reducible refine Below.alloc ?_ ?_ _) | (with_reducible refine Below.setCell ?_ ?_ _) | (show _<=_;focus (first | omega | (simp;done) | (simp;omega)))))
 have c0:=World.cell?_alloc_mark w #[.int .i64 3,.int .i64 (an:Int),.int .i64 0] 24 (0,0) 0
 have c1:=World.cell?_alloc_mark w #[.int .i64 3,.int .i64 (an:Int),.int .i64 0] 24 (0,0) 1
 have c2:=World.cell?_alloc_mark w #[.int .i64 3,.int .i64 (an:Int),.int .i64 0] 24 (0,0) 2
 have hsz:w.heap.size < (w.alloc (.cells #[.int .i64 3,.int .i64 (an:Int),.int .i64 0] 24)).heap.size:=by simp
 have C1:=Lib.hid c1
 have C2:=Lib.hid c2
 clear c0 c1 c2
 go_enter Tryd.func12,Tryd.ntmps12
 go_wp2_with fail
 refine (HA.out _).mono ?_
 rintro e w1 ⟨rfl,rfl⟩
 rw [DA.out]
 go_wp2_with fail
 refine (HN.out _).mono ?_
 rintro e w2 ⟨rfl,hb2⟩
 have hx:=hb1.trans (hb2.mono hb1.size)
 have y2:¬ (9223372036854775807 < 6+(bs (numL an)).size):=by omega
 clear C1 C2
 go_wp2_with fail
 go_ret
 exact ⟨by rw [HV.out,<- bs_append,<- bs_append,Int.toNat_natCast];rfl,hx⟩
set_option maxRecDepth 8000 in
set_option maxHeartbeats 8000000 in
theorem c_sDeedText (k a b:Int) (w:World) :
  Calls Tryd.prog 12 #[.agg #[.int .i64 k,.int .i64 a,.int .i64 b]] w fun e w'=>e=.returned (.string (bs (deedL ⟨k,a,b⟩)))∧Below w.heap.size w w':=by
 have HA:=Lib.hid (fun W=>c_l1In a 0 99 W)
 have HB:=Lib.hid (fun W=>c_l1In b 0 99 W)
 have hbz:Below w.heap.size w (w.alloc (.cells #[.int .i64 k,.int .i64 a,.int .i64 b] 24)):=by (repeat (first | exact rfl | exact Below.refl _ _ | (with_reducible refine Below.drew ?_) | (with_reducible refine Below.drewN ?_ _) | (with_reducible refine Below.alloc ?_ ?_ _) | (with_reducible refine Below.setCell ?_ ?_ _) | (show _<=_;focus (first | omega | (simp;done) | (simp;omega)))))
 by_cases k0:k=0
 ·subst k0
  by_cases ha:0<=a∧a<=99
  ·by_cases hb:0<=b∧b<=99
   ·obtain ⟨an,rfl⟩:∃ n:Nat,a=(n:Int):=⟨a.toNat,by omega⟩
    obtain ⟨bn,rfl⟩:∃ n:Nat,b=(n:Int):=⟨b.toNat,by omega⟩
    exact c_sDeedCome an bn (by omega) (by omega) w
   ·have DA:=Lib.hid (decide_eq_true ha)
    have DB:=Lib.hid (decide_eq_false hb)
    have HV:=Lib.hid (deedL_none (k:=0) (a:=a) (b:=b) (fun h=>hb h.2.2) (by omega) (by omega) (by omega) (by omega))
    clear ha hb
    go_enter Tryd.func12,Tryd.ntmps12
    go_wp2_with fail
    refine (HA.out _).mono ?_
    rintro e w1 ⟨rfl,rfl⟩
    rw [DA.out]
    go_wp2_with fail
    refine (HB.out _).mono ?_
    rintro e w1 ⟨rfl,rfl⟩
    rw [DB.out]
    go_wp2_with fail
    go_ret
    exact ⟨by rw [HV.out];rfl,hbz⟩
  ·have DA:=Lib.hid (decide_eq_false ha)
   have HV:=Lib.hid (deedL_none (k:=0) (a:=a) (b:=b) (fun h=>ha h.2.1) (by omega) (by omega) (by omega) (by omega))
   clear ha
   go_enter Tryd.func12,Tryd.ntmps12
   go_wp2_with fail
   refine (HA.out _).mono ?_
   rintro e w1 ⟨rfl,rfl⟩
   rw [DA.out]
   go_wp2_with fail
   go_ret
   exact ⟨by rw [HV.out];rfl,hbz⟩
 ·have e0:(k == 0)=false:=beq_eq_false_iff_ne.2 k0
  by_cases k2:k=2
  ·subst k2
   by_cases ha:0<=a∧a<=99
   ·have DA:=Lib.hid (decide_eq_true ha)
    by_cases hb:b=0
    ·subst hb
     obtain ⟨an,rfl⟩:∃ n:Nat,a=(n:Int):=⟨a.toNat,by omega⟩
     exact c_sDeedNeed an (by omega) w
    ·have hb0:(b == 0)=false:=beq_eq_false_iff_ne.2 hb
     have HV:=Lib.hid (deedL_none (k:=2) (a:=a) (b:=b) (by omega) (by omega) (by omega) (by omega) (by omega))
     clear ha hb
     go_enter Tryd.func12,Tryd.ntmps12
     go_wp2_with fail
     refine (HA.out _).mono ?_
     rintro e w1 ⟨rfl,rfl⟩
     rw [DA.out]
     go_wp2_with fail
     go_ret
     exact ⟨by rw [HV.out];rfl,hbz⟩
   ·have DA:=Lib.hid (decide_eq_false ha)
    have HV:=Lib.hid (deedL_none (k:=2) (a:=a) (b:=b) (by omega) (by omega) (by omega) (by omega) (by omega))
    clear ha
    go_enter Tryd.func12,Tryd.ntmps12
    go_wp2_with fail
    refine (HA.out _).mono ?_
    rintro e w1 ⟨rfl,rfl⟩
    rw [DA.out]
    go_wp2_with fail
    go_ret
    exact ⟨by rw [HV.out];rfl,hbz⟩
  ·have e2:(k == 2)=false:=beq_eq_false_iff_ne.2 k2
   by_cases k3:k=3
   ·subst k3
    by_cases ha:0<=a∧a<=99
    ·have DA:=Lib.hid (decide_eq_true ha)
     by_cases hb:b=0
     ·subst hb
      obtain ⟨an,rfl⟩:∃ n:Nat,a=(n:Int):=⟨a.toNat,by omega⟩
      exact c_sDeedLater an (by omega) w
     ·have hb0:(b == 0)=false:=beq_eq_false_iff_ne.2 hb
      have HV:=Lib.hid (deedL_none (k:=3) (a:=a) (b:=b) (by omega) (by omega) (by omega) (by omega) (by omega))
      clear ha hb
      go_enter Tryd.func12,Tryd.ntmps12
      go_wp2_with fail
      refine (HA.out _).mono ?_
      rintro e w1 ⟨rfl,rfl⟩
      rw [DA.out]
      go_wp2_with fail
      go_ret
      exact ⟨by rw [HV.out];rfl,hbz⟩
    ·have DA:=Lib.hid (decide_eq_false ha)
     have HV:=Lib.hid (deedL_none (k:=3) (a:=a) (b:=b) (by omega) (by omega) (by omega) (by omega) (by omega))
     clear ha
     go_enter Tryd.func12,Tryd.ntmps12
     go_wp2_with fail
     refine (HA.out _).mono ?_
     rintro e w1 ⟨rfl,rfl⟩
     rw [DA.out]
     go_wp2_with fail
     go_ret
     exact ⟨by rw [HV.out];rfl,hbz⟩
   ·have e3:(k == 3)=false:=beq_eq_false_iff_ne.2 k3
    by_cases h1:k=1∧a=0∧b=0
    ·obtain ⟨rfl,rfl,rfl⟩:=h1
     exact c_sDeedGo w
    ·by_cases h4:k=4∧a=0∧b=0
     ·obtain ⟨rfl,rfl,rfl⟩:=h4
      exact c_sDeedBack w
     ·have HV:=Lib.hid (deedL_none (fun h=>k0 h.1) (fun h=>k2 h.1) (fun h=>k3 h.1) h1 h4)
      have f1:¬ (k=1∧a=0∧b=0):=h1
      have f4:¬ (k=4∧a=0∧b=0):=h4
      clear HA HB
      go_enter Tryd.func12,Tryd.ntmps12
      go_wp2_with fail
      all_goals
       go_ret
       exact ⟨by rw [HV.out];rfl,by (repeat (first | exact rfl | exact Below.refl _ _ | (with_reducible refine Below.drew ?_) | (with_reducible refine Below.drewN ?_ _) | (with_reducible refine Below.alloc ?_ ?_ _) | (with_reducible refine Below.setCell ?_ ?_ _) | (show _<=_;focus (first | omega | (simp;done) | (simp;omega)))))⟩
end Go.Proofs.YticccnkanihpnaaDoor
namespace Go.Proofs.YticccnkanihpnaaDoor
set_option linter.unusedVariables false
open Go.RowKit
theorem var_same {P:Program} {w w':World} {name:String} {g:Nat} (hg:P.globalNamed name=some g) (h:w'.heap[g]?=w.heap[g]?):w'.var? P name=w.var? P name:=by
 simp only [World.var?,hg,Option.bind_some,h]
def LV1 (w : World) (B : Nat) : Prop := 1 < B ∧ Lib.TabIs Tryd.prog w "internal/strconv.uint64pow10" .u64 Lib.pow10Tab
theorem LV1.below {w w':World} {B:Nat} (h:LV1 w B) (hb:Below B w w'):LV1 w' B:=⟨h.1,by have:=h.2;unfold Lib.TabIs at this ⊢;rw [var_same (by kernel_rfl) (hb.block _ h.1)];exact this⟩
theorem LV1.more {w:World} {B B':Nat} (h:LV1 w B) (hB:B<=B'):LV1 w B':=⟨Nat.lt_of_lt_of_le h.1 hB,h.2⟩
def LV2 (w : World) (B : Nat) : Prop := (4 < B ∧ ∃ tp p, w.var? Tryd.prog "strconv.ErrSyntax" = some #[.iface tp p]) ∧ 5 < B ∧ ∃ tp p, w.var? Tryd.prog "strconv.ErrRange" = some #[.iface tp p]
theorem LV2.below {w w':World} {B:Nat} (h:LV2 w B) (hb:Below B w w'):LV2 w' B :=
 ⟨⟨h.1.1,by rw [var_same (by kernel_rfl) (hb.block _ h.1.1)];exact h.1.2⟩,h.2.1,by rw [var_same (by kernel_rfl) (hb.block _ h.2.1)];exact h.2.2⟩
theorem LV2.more {w:World} {B B':Nat} (h:LV2 w B) (hB:B<=B'):LV2 w B':=⟨⟨Nat.lt_of_lt_of_le h.1.1 hB,h.1.2⟩,Nat.lt_of_lt_of_le h.2.1 hB,h.2.2⟩
def LV3 (w:World) (B:Nat):Prop:=0 < B∧∃ m,w.cell? ⟨0,0,none⟩=some (.int .i64 m)
theorem LV3.below {w w':World} {B:Nat} (h:LV3 w B) (hb:Below B w w'):LV3 w' B:=⟨h.1,by rw [hb.cell (p:=⟨0,0,none⟩) h.1];exact h.2⟩
theorem LV3.more {w:World} {B B':Nat} (h:LV3 w B) (hB:B<=B'):LV3 w B':=⟨Nat.lt_of_lt_of_le h.1 hB,h.2⟩
def LV (w:World) (B:Nat):Prop:=LV1 w B∧LV2 w B∧LV3 w B
theorem LV.below {w w':World} {B:Nat} (h:LV w B) (hb:Below B w w'):LV w' B:=⟨h.1.below hb,h.2.1.below hb,h.2.2.below hb⟩
theorem LV.more {w:World} {B B':Nat} (h:LV w B) (hB:B<=B'):LV w B':=⟨h.1.more hB,h.2.1.more hB,h.2.2.more hB⟩
theorem LV.at {w w':World} (h:LV w w.heap.size) (hb:Below w.heap.size w w'):LV w' w'.heap.size:=(h.below hb).more hb.size
end Go.Proofs.YticccnkanihpnaaDoor
namespace Go.Proofs.YticccnkanihpnaaDoor
set_option linter.unusedVariables false
open Go.RowKit
theorem hsetA {w:World} {R:Nat} {t:TypeId} {x y:Value} (q:Value) (h:w.heap[R]?=some (.cells #[x,y] t (0,0))):(w.setCell ⟨R,0,none⟩ q).heap[R]?=some (.cells #[q,y] t (0,0)):=by
 obtain ⟨hlt,he⟩:=Array.getElem?_eq_some_iff.1 h
 rw [Array.getElem?_eq_getElem (by simpa [World.setCell] using hlt)]
 simp [World.setCell,Array.getElem_modify,he]
theorem hsetB {w:World} {R:Nat} {t:TypeId} {x y:Value} (q:Value) (h:w.heap[R]?=some (.cells #[x,y] t (0,0))):(w.setCell ⟨R,1,none⟩ q).heap[R]?=some (.cells #[x,q] t (0,0)):=by
 obtain ⟨hlt,he⟩:=Array.getElem?_eq_some_iff.1 h
 rw [Array.getElem?_eq_getElem (by simpa [World.setCell] using hlt)]
 simp [World.setCell,Array.getElem_modify,he]
theorem unfrozenB {w:World} {R i:Nat} {cs:Array Value} {t:TypeId} (h:w.heap[R]?=some (.cells cs t (0,0))):w.frozen? ⟨R,i,none⟩=false:=by simp [World.frozen?,h]
theorem put2 {w:World} {R:Nat} {t:TypeId} {p q:Value} (x y:Value) (h:w.heap[R]?=some (.cells #[p,q] t (0,0))):((w.setCell ⟨R,0,none⟩ x).setCell ⟨R,1,none⟩ y).cell? ⟨R,0,none⟩=some x∧((w.setCell ⟨R,0,none⟩ x).setCell ⟨R,1,none⟩ y).cell? ⟨R,1,none⟩=some y:=by
 have b:=hsetB y (hsetA x h)
 exact ⟨cell_of_row _ R 0 _ _ _ b,cell_of_row _ R 1 _ _ _ b⟩
theorem far2 (w:World) (B:Nat) (x y:Value) (k:Nat) (h:k≠B):((w.setCell ⟨B,0,none⟩ x).setCell ⟨B,1,none⟩ y).heap[k]?=w.heap[k]?:=(Below.heap_setCell _ _ _ _ h).trans (Below.heap_setCell _ _ _ _ h)
end Go.Proofs.YticccnkanihpnaaDoor
namespace Go.Proofs.YticccnkanihpnaaDoor
set_option linter.unusedVariables false
open Go.RowKit
attribute [local go_sem ↓] Go.wp_at_zero Go.wp_at_succ
def formVal (k:Int):Value :=
 if k=0 then .agg #[.string ⟨#[99,111,109,101]⟩,.int .i64 2] else if k=1 then .agg #[.string ⟨#[103,111]⟩,.int .i64 0] else if k=2 then .agg #[.string ⟨#[110,101,101,100]⟩,.int .i64 1]
 else if k=3 then .agg #[.string ⟨#[108,97,116,101,114]⟩,.int .i64 1] else .agg #[.string ⟨#[98,97,99,107]⟩,.int .i64 0]
def formOk (k a b:Int):Bool:=decide (k=0) || (decide (k=1) && decide (a=0) && decide (b=0)) || (decide (k=2) && decide (b=0)) || (decide (k=3) && decide (b=0)) || (decide (k=4) && decide (a=0) && decide (b=0))
set_option maxHeartbeats 1000000 in
theorem c_deedForms (w:World) :
  Calls Tryd.prog 41 #[] w fun e w'=>e=.returned (.agg #[.string ⟨#[99,111,109,101]⟩,.int .i64 2,.string ⟨#[103,111]⟩,.int .i64 0,.string ⟨#[110,101,101,100]⟩,.int .i64 1,.string ⟨#[108,97,116,101,114]⟩,.int .i64 1,.string ⟨#[98,97,99,107]⟩,.int .i64 0])∧Below w.heap.size w w':=by
 go_enter Tryd.func41,Tryd.ntmps41
 go_wp2_with fail
 exact bodyPost_ret (v:=.agg #[.string ⟨#[99,111,109,101]⟩,.int .i64 2,.string ⟨#[103,111]⟩,.int .i64 0,.string ⟨#[110,101,101,100]⟩,.int .i64 1,.string ⟨#[108,97,116,101,114]⟩,.int .i64 1,.string ⟨#[98,97,99,107]⟩,.int .i64 0]) (by simp [results,Tryd.f41,go_sem]) rfl ⟨rfl,by (repeat (first | exact rfl | exact Below.refl _ _ | (with_reducible refine Below.drew ?_) | (with_reducible refine Below.drewN ?_ _) | (with_reducible refine Below.alloc ?_ ?_ _) | (with_reducible refine Below.setCell ?_ ?_ _) | (show _<=_;focus (first | omega | (simp;done) | (simp;omega)))))⟩
set_option maxHeartbeats 1000000 in
theorem c_numbers (k a b:Int) (w:World) :
  Calls Tryd.prog 34 #[.agg #[.int .i64 k,.int .i64 a,.int .i64 b]] w fun e w'=>∃ g,e=.returned (.slice (some ⟨g,0,none⟩) 2 2)∧w'.cell? ⟨g,0,none⟩=some (.int .i64 a)∧w'.cell? ⟨g,1,none⟩=some (.int .i64 b)∧g < w'.heap.size∧Below w.heap.size w w':=by
 go_enter Tryd.func34,Tryd.ntmps34
 go_wp2_with fail
 go_ret
 exact ⟨_,rfl,by simp [go_sem],by simp [go_sem],by simp,by (repeat (first | exact rfl | exact Below.refl _ _ | (with_reducible refine Below.drew ?_) | (with_reducible refine Below.drewN ?_ _) | (with_reducible refine Below.alloc ?_ ?_ _) | (with_reducible refine Below.setCell ?_ ?_ _) | (show _<=_;focus (first | omega | (simp;done) | (simp;omega)))))⟩
theorem c_isNot0 (x:Int) (w:World):Calls Tryd.prog 55 #[.int .i64 x] w fun e w'=>e=.returned (.bool (!decide (x=0)))∧w=w':=by
 go_enter Tryd.func55,Tryd.ntmps55
 by_cases h:x=0
 ·subst h
  go_wp2_with fail
  go_ret
  exact ⟨rfl,rfl⟩
 ·have h2:(x == 0)=false:=beq_eq_false_iff_ne.2 h
  have h3:(x != 0)=true:=by simp [bne,h2]
  go_wp2_with fail
  go_ret
  exact ⟨by simp [h],rfl⟩
set_option maxHeartbeats 2000000 in
theorem c_indexNot0 (xs:List Int) (A:Option Addr) (B c:Nat) (w:World) (hA:Is w B A xs) (hn:xs.length<=140737488351232) :
  Calls Tryd.prog 63 #[.slice A xs.length c,.func (.func 55) #[] #[]] w fun e w'=>(∃ i:Int,e=.returned (.int .i64 i)∧decide (0<=i)=!xs.all (fun x=>decide (x=0)))∧w=w':=by
 go_enter Tryd.func63,Tryd.ntmps63
 go_wp2_with fail
 go_loopw [8] (fun i wr=>∃ k:Nat,k<=xs.length∧i=.int .i64 k∧Hid (∀ j,j < k->Z xs j=0)∧wr=w) (fun i _=>xs.length - (intOf i).toNat)
 case atStart=>exact ⟨0,by omega,rfl,Lib.hid (fun j hj=>by omega),rfl⟩
 case round =>
  obtain ⟨k,hk,rfl,HN,rfl⟩:=hrel
  by_cases hlt:k < xs.length
  ·obtain ⟨gb,go,rfl,hgb,hgc⟩:=hA (by omega)
   have c0:=hgc k hlt
   have p1:(0:Int)<=(k:Int):=by omega
   have p2:(k:Int) < (xs.length:Int):=by omega
   clear hgc
   by_cases hz:Z xs k=0
   ·have hd:decide (Z xs k=0)=true:=decide_eq_true hz
    have HB:=Lib.hid (show ∀ j,j < k+1->Z xs j=0 from fun j hj=>by
     rcases Nat.lt_succ_iff_lt_or_eq.1 hj with h | rfl
     ·exact HN.out j h
     ·exact hz)
    clear hz
    go_wp2_with fail
    refine (c_isNot0 _ _).mono ?_
    rintro e w1 ⟨rfl,rfl⟩
    rw [hd]
    go_wp2_with fail
    go_roundw
    case rel=>exact ⟨k+1,by omega,by go_num,HB,trivial⟩
    case measure=>simp [intOf];omega
   ·have hd:decide (Z xs k=0)=false:=decide_eq_false hz
    have HB:=Lib.hid (show decide ((0:Int)<=(k:Int))=!xs.all (fun x=>decide (x=0)) by
     cases h:xs.all (fun x=>decide (x=0)) with
     | true =>
      have:=List.all_eq_true.1 h _ (List.getElem_mem hlt)
      have e:Z xs k=xs[k]:=by simp [Z,hlt]
      rw [e] at hz
      simp at this
      exact absurd this hz
     | false=>simp)
    clear hz
    go_wp2_with fail
    refine (c_isNot0 _ _).mono ?_
    rintro e w1 ⟨rfl,rfl⟩
    rw [hd]
    go_wp2_with fail
    go_ret
    exact ⟨⟨_,rfl,HB.out⟩,rfl⟩
  ·have hlf:¬ ((k:Int) < (xs.length:Int)):=by omega
   obtain rfl:k=xs.length:=by omega
   have HB:=Lib.hid (show decide ((0:Int)≤-1)=!xs.all (fun x=>decide (x=0)) by
    have:xs.all (fun x=>decide (x=0))=true:=List.all_eq_true.2 (fun x hx=>by
     obtain ⟨k,hk,rfl⟩:=List.getElem_of_mem hx
     have:=HN.out k hk
     simpa [Z,hk] using this)
    rw [this];rfl)
   go_wp2_with fail
   go_ret
   exact ⟨⟨_,rfl,HB.out⟩,rfl⟩
theorem c_anyNot0 (xs:List Int) (A:Option Addr) (B c:Nat) (w:World) (hA:Is w B A xs) (hn:xs.length<=140737488351232) :
  Calls Tryd.prog 54 #[.slice A xs.length c,.func (.func 55) #[] #[]] w fun e w'=>e=.returned (.bool (!xs.all (fun x=>decide (x=0))))∧w=w':=by
 go_enter Tryd.func54,Tryd.ntmps54
 go_wp2_with fail
 refine (c_indexNot0 xs A B c w hA hn).mono ?_
 rintro e w1 ⟨⟨i,rfl,hi⟩,rfl⟩
 go_wp2_with fail
 go_ret
 rw [<- hi]
 exact ⟨rfl,rfl⟩
theorem c_any0 (A:Option Addr) (c:Nat) (w:World):Calls Tryd.prog 54 #[.slice A 0 c,.func (.func 55) #[] #[]] w fun e w'=>e=.returned (.bool false)∧w=w' :=
 c_anyNot0 [] A 0 c w (fun h=>by simp at h) (by simp)
theorem c_any1 (x:Int) (g off c:Nat) (w:World) (h:w.cell? ⟨g,off,none⟩=some (.int .i64 x)) :
  Calls Tryd.prog 54 #[.slice (some ⟨g,off,none⟩) 1 c,.func (.func 55) #[] #[]] w fun e w'=>e=.returned (.bool (!decide (x=0)))∧w=w' :=
 (c_anyNot0 [x] (some ⟨g,off,none⟩) (g+1) c w (fun _=>⟨g,off,rfl,by omega,fun k hk=>by
   have hk0:k=0:=by simpa using hk
   subst hk0
   exact h⟩) (by simp)).mono fun e w' he=>⟨by rw [he.1];simp,he.2⟩
theorem c_any2 (x y:Int) (g off c:Nat) (w:World) (h:w.cell? ⟨g,off,none⟩=some (.int .i64 x)) (h2:w.cell? ⟨g,off+1,none⟩=some (.int .i64 y)) :
  Calls Tryd.prog 54 #[.slice (some ⟨g,off,none⟩) 2 c,.func (.func 55) #[] #[]] w fun e w'=>e=.returned (.bool (!(decide (x=0) && decide (y=0))))∧w=w' :=
 (c_anyNot0 [x,y] (some ⟨g,off,none⟩) (g+1) c w (fun _=>⟨g,off,rfl,by omega,fun k hk=>by
   have hk2:k=0∨k=1:=by simp at hk;omega
   rcases hk2 with rfl | rfl
   ·exact h
   ·exact h2⟩) (by simp)).mono fun e w' he=>⟨by rw [he.1];simp,he.2⟩
theorem formOk_no {k a b:Int} (h:¬ (0<=k∧k<=4)):formOk k a b=false:=by
 have:k≠0∧k≠1∧k≠2∧k≠3∧k≠4:=by omega
 simp [formOk,this]
set_option maxRecDepth 8000 in
set_option maxHeartbeats 4000000 in
theorem c_form0 (k:Nat) (W:ByteArray) (a b:Int) (hk:k<=4) (hA:(#[.string ⟨#[99,111,109,101]⟩,.int .i64 2,.string ⟨#[103,111]⟩,.int .i64 0,.string ⟨#[110,101,101,100]⟩,.int .i64 1,.string ⟨#[108,97,116,101,114]⟩,.int .i64 1,.string ⟨#[98,97,99,107]⟩,.int .i64 0]:Array Value)[k * 2]?=some (.string W)∧(#[.string ⟨#[99,111,109,101]⟩,.int .i64 2,.string ⟨#[103,111]⟩,.int .i64 0,.string ⟨#[110,101,101,100]⟩,.int .i64 1,.string ⟨#[108,97,116,101,114]⟩,.int .i64 1,.string ⟨#[98,97,99,107]⟩,.int .i64 0]:Array Value)[k * 2+1]?=some (.int .i64 0)) (w:World) :
  Calls Tryd.prog 33 #[.agg #[.int .i64 (k:Int),.int .i64 a,.int .i64 b]] w fun e w'=>e=.returned (.tuple #[.agg #[.string W,.int .i64 0],.bool (decide (a=0) && decide (b=0))])∧Below w.heap.size w w':=by
 have hd:decide ((0:Int)<=(k:Int)∧(k:Int)<=4)=true:=decide_eq_true (by omega)
 have HD:=Lib.hid hd
 obtain ⟨w0,hw0⟩:∃ w0,(w.alloc (.cells #[.int .i64 (k:Int),.int .i64 a,.int .i64 b] 24)).alloc (.cells #[.string ⟨#[]⟩,.int .i64 0] 54)=w0:=⟨_,rfl⟩
 have hz0:w0.heap.size=w.heap.size+2:=by rw [<- hw0];simp
 have hb0:Below w.heap.size w w0:=by rw [<- hw0];exact ((Below.refl _ w).alloc (Nat.le_refl _) _).alloc (by simp) _
 have bD:w0.heap[w.heap.size]?=some (.cells #[.int .i64 (k:Int),.int .i64 a,.int .i64 b] 24 (0,0)):=by rw [<- hw0];exact (Below.heap_alloc _ _ _ (by simp)).trans (heap_alloc_new _ _)
 have bR:w0.heap[w.heap.size+1]?=some (.cells #[.string ⟨#[]⟩,.int .i64 0] 54 (0,0)):=by
  rw [<- hw0]
  have h:=heap_alloc_new (w.alloc (.cells #[.int .i64 (k:Int),.int .i64 a,.int .i64 b] 24)) (.cells #[.string ⟨#[]⟩,.int .i64 0] 54)
  rwa [show (w.alloc (.cells #[.int .i64 (k:Int),.int .i64 a,.int .i64 b] 24)).heap.size=w.heap.size+1 by simp] at h
 have HS:=Lib.hid (fun (W':World) (hb:Below (w.heap.size+1) w0 W')=>show W'.cell? ⟨w.heap.size,0,none⟩=some (.int .i64 (k:Int))∧W'.cell? ⟨w.heap.size,1,none⟩=some (.int .i64 a)∧W'.cell? ⟨w.heap.size,2,none⟩=some (.int .i64 b) from by
  have b:=(hb.block w.heap.size (by omega)).trans bD
  exact ⟨cell_of_row _ w.heap.size 0 _ _ _ b,cell_of_row _ w.heap.size 1 _ _ _ b,cell_of_row _ w.heap.size 2 _ _ _ b⟩)
 have p1:(0:Int)<=(k:Int):=by omega
 have p2:(k:Int) < 5:=by omega
 clear bD hk hd
 go_enter Tryd.func33,Tryd.ntmps33
 go_wp2_with fail
 refine (c_deedForms _).mono ?_
 rintro e w1 ⟨rfl,hb1⟩
 have hz1:=hb1.size
 have c0:=(HS.out (w1.alloc (.cells #[.string ⟨#[99,111,109,101]⟩,.int .i64 2,.string ⟨#[103,111]⟩,.int .i64 0,.string ⟨#[110,101,101,100]⟩,.int .i64 1,.string ⟨#[108,97,116,101,114]⟩,.int .i64 1,.string ⟨#[98,97,99,107]⟩,.int .i64 0] 66)) ((hb1.alloc hz1 _).mono (by omega))).1
 go_wp2_with fail
 refine (c_within _ _ _ _).mono ?_
 rintro e w' ⟨rfl,rfl⟩
 rw [HD.out]
 clear c0
 obtain ⟨w2,hw2⟩:∃ w2,w1.alloc (.cells #[.string ⟨#[99,111,109,101]⟩,.int .i64 2,.string ⟨#[103,111]⟩,.int .i64 0,.string ⟨#[110,101,101,100]⟩,.int .i64 1,.string ⟨#[108,97,116,101,114]⟩,.int .i64 1,.string ⟨#[98,97,99,107]⟩,.int .i64 0] 66)=w2:=⟨_,rfl⟩
 have hb2:Below w1.heap.size w1 w2:=by rw [<- hw2];exact (Below.refl _ w1).alloc (Nat.le_refl _) _
 have hz2:w2.heap.size=w1.heap.size+1:=by rw [<- hw2];simp
 have bF:w2.heap[w1.heap.size]?=some (.cells #[.string ⟨#[99,111,109,101]⟩,.int .i64 2,.string ⟨#[103,111]⟩,.int .i64 0,.string ⟨#[110,101,101,100]⟩,.int .i64 1,.string ⟨#[108,97,116,101,114]⟩,.int .i64 1,.string ⟨#[98,97,99,107]⟩,.int .i64 0] 66 (0,0)):=by rw [<- hw2];exact heap_alloc_new _ _
 have x0:=(cell_of_row _ w1.heap.size (k * 2) _ _ _ bF).trans hA.1
 have x1:=(cell_of_row _ w1.heap.size (k * 2+1) _ _ _ bF).trans hA.2
 have hx2:=hb1.trans (hb2.mono hz1)
 obtain ⟨c0,c1,c2⟩:=HS.out _ (hx2.mono (by omega))
 rw [hw2]
 clear bF hA hw2
 have hlt2:w1.heap.size < w2.heap.size:=by omega
 clear hz2
 go_wp2_with fail
 obtain ⟨w3,hw3⟩:∃ w3,w2.alloc (.cells #[.string W,.int .i64 0] 54)=w3:=⟨_,rfl⟩
 have hb3:Below w2.heap.size w2 w3:=by rw [<- hw3];exact (Below.refl _ w2).alloc (Nat.le_refl _) _
 have hz3:w2.heap.size < w3.heap.size:=by rw [<- hw3];simp
 have bG:w3.heap[w2.heap.size]?=some (.cells #[.string W,.int .i64 0] 54 (0,0)):=by rw [<- hw3];exact heap_alloc_new _ _
 rw [hw3]
 have hx3:=hx2.trans (hb3.mono (by omega))
 have HG:=Lib.hid (fun (W':World) (hb:Below w3.heap.size w3 W')=>show W'.cell? ⟨w.heap.size,0,none⟩=some (.int .i64 (k:Int))∧W'.cell? ⟨w.heap.size,1,none⟩=some (.int .i64 a)∧W'.cell? ⟨w.heap.size,2,none⟩=some (.int .i64 b)∧W'.cell? ⟨w2.heap.size,0,none⟩=some (.string W)∧W'.cell? ⟨w2.heap.size,1,none⟩=some (.int .i64 0) from by
  have b:=(hb.block w2.heap.size (by omega)).trans bG
  obtain ⟨s0,s1,s2⟩:=HS.out W' ((hx3.trans (hb.mono (by omega))).mono (by omega))
  exact ⟨s0,s1,s2,cell_of_row _ w2.heap.size 0 _ _ _ b,cell_of_row _ w2.heap.size 1 _ _ _ b⟩)
 obtain ⟨g0,g1,g2,g3,g4⟩:=HG.out _ (Below.refl _ w3)
 have hd3:Below w3.heap.size w3 w3.drew:=(Below.refl _ w3).drew
 clear bG hb2 hb3 hw0 hw3 c0 c1 c2 x0 x1
 go_region_held3 (fun W'=>W'.cell? ⟨w.heap.size,0,none⟩=some (.int .i64 (k:Int))∧W'.cell? ⟨w.heap.size,1,none⟩=some (.int .i64 a)∧W'.cell? ⟨w.heap.size,2,none⟩=some (.int .i64 b)∧W'.cell? ⟨w2.heap.size,0,none⟩=some (.string W)∧W'.cell? ⟨w2.heap.size,1,none⟩=some (.int .i64 0))
  (first
    | go_keep
    | exact HG.out _ hx6)
  (first
    | (go_at_call 34;refine (c_numbers _ _ _ _).mono ?_;rintro e w6 ⟨g,rfl,e0,e1,hg,hb6⟩;have hx6:Below w3.heap.size w3 w6:=hd3.trans hb6))
 obtain ⟨y0,y1,y2,y3,y4⟩:=HG.out _ hx6
 have hy6:=hx3.trans (hx6.mono (by omega))
 have b6:=(hy6.block (w.heap.size+1) (by omega)).trans bR
 have r0:=cell_of_row _ (w.heap.size+1) 0 _ _ _ b6
 have r1:=cell_of_row _ (w.heap.size+1) 1 _ _ _ b6
 have f0:w6.frozen? ⟨w.heap.size+1,0,none⟩=false:=unfrozenB b6
 have f1:w6.frozen? ⟨w.heap.size+1,1,none⟩=false:=unfrozenB b6
 have hlR:w.heap.size+1 < w2.heap.size:=by omega
 have HK:=Lib.hid (fun (p q:Value)=>show ((w6.setCell ⟨w.heap.size+1,0,none⟩ p).setCell ⟨w.heap.size+1,1,none⟩ q).drew.cell? ⟨w2.heap.size,0,none⟩=some (.string W)∧((w6.setCell ⟨w.heap.size+1,0,none⟩ p).setCell ⟨w.heap.size+1,1,none⟩ q).drew.cell? ⟨w2.heap.size,1,none⟩=some (.int .i64 0) from
  ⟨(World.cell?_of_block (far2 w6 (w.heap.size+1) p q w2.heap.size (by omega))).trans y3,(World.cell?_of_block (far2 w6 (w.heap.size+1) p q w2.heap.size (by omega))).trans y4⟩)
 have E0:=Lib.hid e0
 have E1:=Lib.hid e1
 have HB:=Lib.hid b6
 have HY:=Lib.hid (show Below w.heap.size w w6 from hb0.trans (hy6.mono (by omega)))
 clear g0 g1 g2 g3 g4 y0 y1 y2 hx6 hy6 hb6 hd3 e0 e1 b6 hx2 hx3
 go_wp2_with fail
 go_region_held3 (fun W'=>W'.cell? ⟨w2.heap.size,0,none⟩=some (.string W)∧W'.cell? ⟨w2.heap.size,1,none⟩=some (.int .i64 0))
  (first
    | exact HK.out _ _
    | go_keep)
  (first
    | (go_at_call 54;refine (c_any2 a b g 0 2 _ (by exact E0.out) (by exact E1.out)).mono ?_;rintro e w' ⟨rfl,rfl⟩))
 go_wp2_with fail
 obtain ⟨k0,k1⟩:=put2 (.string W) (.int .i64 0) HB.out
 refine bodyPost_ret (v:=.tuple #[.agg #[.string W,.int .i64 0],.bool (decide (a=0) && decide (b=0))]) (by simp [results,Tryd.f33,go_sem,k0,k1]) rfl ?_
 exact ⟨rfl,(HY.out.drew.setCell (p:=⟨w.heap.size+1,0,none⟩) (by simp) _).setCell (p:=⟨w.heap.size+1,1,none⟩) (by simp) _⟩
set_option maxRecDepth 8000 in
set_option maxHeartbeats 4000000 in
theorem c_form1 (k:Nat) (W:ByteArray) (a b:Int) (hk:k<=4) (hA:(#[.string ⟨#[99,111,109,101]⟩,.int .i64 2,.string ⟨#[103,111]⟩,.int .i64 0,.string ⟨#[110,101,101,100]⟩,.int .i64 1,.string ⟨#[108,97,116,101,114]⟩,.int .i64 1,.string ⟨#[98,97,99,107]⟩,.int .i64 0]:Array Value)[k * 2]?=some (.string W)∧(#[.string ⟨#[99,111,109,101]⟩,.int .i64 2,.string ⟨#[103,111]⟩,.int .i64 0,.string ⟨#[110,101,101,100]⟩,.int .i64 1,.string ⟨#[108,97,116,101,114]⟩,.int .i64 1,.string ⟨#[98,97,99,107]⟩,.int .i64 0]:Array Value)[k * 2+1]?=some (.int .i64 1)) (w:World) :
  Calls Tryd.prog 33 #[.agg #[.int .i64 (k:Int),.int .i64 a,.int .i64 b]] w fun e w'=>e=.returned (.tuple #[.agg #[.string W,.int .i64 1],.bool (decide (b=0))])∧Below w.heap.size w w':=by
 have hd:decide ((0:Int)<=(k:Int)∧(k:Int)<=4)=true:=decide_eq_true (by omega)
 have HD:=Lib.hid hd
 obtain ⟨w0,hw0⟩:∃ w0,(w.alloc (.cells #[.int .i64 (k:Int),.int .i64 a,.int .i64 b] 24)).alloc (.cells #[.string ⟨#[]⟩,.int .i64 0] 54)=w0:=⟨_,rfl⟩
 have hz0:w0.heap.size=w.heap.size+2:=by rw [<- hw0];simp
 have hb0:Below w.heap.size w w0:=by rw [<- hw0];exact ((Below.refl _ w).alloc (Nat.le_refl _) _).alloc (by simp) _
 have bD:w0.heap[w.heap.size]?=some (.cells #[.int .i64 (k:Int),.int .i64 a,.int .i64 b] 24 (0,0)):=by rw [<- hw0];exact (Below.heap_alloc _ _ _ (by simp)).trans (heap_alloc_new _ _)
 have bR:w0.heap[w.heap.size+1]?=some (.cells #[.string ⟨#[]⟩,.int .i64 0] 54 (0,0)):=by
  rw [<- hw0]
  have h:=heap_alloc_new (w.alloc (.cells #[.int .i64 (k:Int),.int .i64 a,.int .i64 b] 24)) (.cells #[.string ⟨#[]⟩,.int .i64 0] 54)
  rwa [show (w.alloc (.cells #[.int .i64 (k:Int),.int .i64 a,.int .i64 b] 24)).heap.size=w.heap.size+1 by simp] at h
 have HS:=Lib.hid (fun (W':World) (hb:Below (w.heap.size+1) w0 W')=>show W'.cell? ⟨w.heap.size,0,none⟩=some (.int .i64 (k:Int))∧W'.cell? ⟨w.heap.size,1,none⟩=some (.int .i64 a)∧W'.cell? ⟨w.heap.size,2,none⟩=some (.int .i64 b) from by
  have b:=(hb.block w.heap.size (by omega)).trans bD
  exact ⟨cell_of_row _ w.heap.size 0 _ _ _ b,cell_of_row _ w.heap.size 1 _ _ _ b,cell_of_row _ w.heap.size 2 _ _ _ b⟩)
 have p1:(0:Int)<=(k:Int):=by omega
 have p2:(k:Int) < 5:=by omega
 clear bD hk hd
 go_enter Tryd.func33,Tryd.ntmps33
 go_wp2_with fail
 refine (c_deedForms _).mono ?_
 rintro e w1 ⟨rfl,hb1⟩
 have hz1:=hb1.size
 have c0:=(HS.out (w1.alloc (.cells #[.string ⟨#[99,111,109,101]⟩,.int .i64 2,.string ⟨#[103,111]⟩,.int .i64 0,.string ⟨#[110,101,101,100]⟩,.int .i64 1,.string ⟨#[108,97,116,101,114]⟩,.int .i64 1,.string ⟨#[98,97,99,107]⟩,.int .i64 0] 66)) ((hb1.alloc hz1 _).mono (by omega))).1
 go_wp2_with fail
 refine (c_within _ _ _ _).mono ?_
 rintro e w' ⟨rfl,rfl⟩
 rw [HD.out]
 clear c0
 obtain ⟨w2,hw2⟩:∃ w2,w1.alloc (.cells #[.string ⟨#[99,111,109,101]⟩,.int .i64 2,.string ⟨#[103,111]⟩,.int .i64 0,.string ⟨#[110,101,101,100]⟩,.int .i64 1,.string ⟨#[108,97,116,101,114]⟩,.int .i64 1,.string ⟨#[98,97,99,107]⟩,.int .i64 0] 66)=w2:=⟨_,rfl⟩
 have hb2:Below w1.heap.size w1 w2:=by rw [<- hw2];exact (Below.refl _ w1).alloc (Nat.le_refl _) _
 have hz2:w2.heap.size=w1.heap.size+1:=by rw [<- hw2];simp
 have bF:w2.heap[w1.heap.size]?=some (.cells #[.string ⟨#[99,111,109,101]⟩,.int .i64 2,.string ⟨#[103,111]⟩,.int .i64 0,.string ⟨#[110,101,101,100]⟩,.int .i64 1,.string ⟨#[108,97,116,101,114]⟩,.int .i64 1,.string ⟨#[98,97,99,107]⟩,.int .i64 0] 66 (0,0)):=by rw [<- hw2];exact heap_alloc_new _ _
 have x0:=(cell_of_row _ w1.heap.size (k * 2) _ _ _ bF).trans hA.1
 have x1:=(cell_of_row _ w1.heap.size (k * 2+1) _ _ _ bF).trans hA.2
 have hx2:=hb1.trans (hb2.mono hz1)
 obtain ⟨c0,c1,c2⟩:=HS.out _ (hx2.mono (by omega))
 rw [hw2]
 clear bF hA hw2
 have hlt2:w1.heap.size < w2.heap.size:=by omega
 clear hz2
 go_wp2_with fail
 obtain ⟨w3,hw3⟩:∃ w3,w2.alloc (.cells #[.string W,.int .i64 1] 54)=w3:=⟨_,rfl⟩
 have hb3:Below w2.heap.size w2 w3:=by rw [<- hw3];exact (Below.refl _ w2).alloc (Nat.le_refl _) _
 have hz3:w2.heap.size < w3.heap.size:=by rw [<- hw3];simp
 have bG:w3.heap[w2.heap.size]?=some (.cells #[.string W,.int .i64 1] 54 (0,0)):=by rw [<- hw3];exact heap_alloc_new _ _
 rw [hw3]
 have hx3:=hx2.trans (hb3.mono (by omega))
 have HG:=Lib.hid (fun (W':World) (hb:Below w3.heap.size w3 W')=>show W'.cell? ⟨w.heap.size,0,none⟩=some (.int .i64 (k:Int))∧W'.cell? ⟨w.heap.size,1,none⟩=some (.int .i64 a)∧W'.cell? ⟨w.heap.size,2,none⟩=some (.int .i64 b)∧W'.cell? ⟨w2.heap.size,0,none⟩=some (.string W)∧W'.cell? ⟨w2.heap.size,1,none⟩=some (.int .i64 1) from by
  have b:=(hb.block w2.heap.size (by omega)).trans bG
  obtain ⟨s0,s1,s2⟩:=HS.out W' ((hx3.trans (hb.mono (by omega))).mono (by omega))
  exact ⟨s0,s1,s2,cell_of_row _ w2.heap.size 0 _ _ _ b,cell_of_row _ w2.heap.size 1 _ _ _ b⟩)
 obtain ⟨g0,g1,g2,g3,g4⟩:=HG.out _ (Below.refl _ w3)
 have hd3:Below w3.heap.size w3 w3.drew:=(Below.refl _ w3).drew
 clear bG hb2 hb3 hw0 hw3 c0 c1 c2 x0 x1
 go_region_held3 (fun W'=>W'.cell? ⟨w.heap.size,0,none⟩=some (.int .i64 (k:Int))∧W'.cell? ⟨w.heap.size,1,none⟩=some (.int .i64 a)∧W'.cell? ⟨w.heap.size,2,none⟩=some (.int .i64 b)∧W'.cell? ⟨w2.heap.size,0,none⟩=some (.string W)∧W'.cell? ⟨w2.heap.size,1,none⟩=some (.int .i64 1))
  (first
    | go_keep
    | exact HG.out _ hx6)
  (first
    | (go_at_call 34;refine (c_numbers _ _ _ _).mono ?_;rintro e w6 ⟨g,rfl,e0,e1,hg,hb6⟩;have hx6:Below w3.heap.size w3 w6:=hd3.trans hb6))
 obtain ⟨y0,y1,y2,y3,y4⟩:=HG.out _ hx6
 have hy6:=hx3.trans (hx6.mono (by omega))
 have b6:=(hy6.block (w.heap.size+1) (by omega)).trans bR
 have r0:=cell_of_row _ (w.heap.size+1) 0 _ _ _ b6
 have r1:=cell_of_row _ (w.heap.size+1) 1 _ _ _ b6
 have f0:w6.frozen? ⟨w.heap.size+1,0,none⟩=false:=unfrozenB b6
 have f1:w6.frozen? ⟨w.heap.size+1,1,none⟩=false:=unfrozenB b6
 have hlR:w.heap.size+1 < w2.heap.size:=by omega
 have HK:=Lib.hid (fun (p q:Value)=>show ((w6.setCell ⟨w.heap.size+1,0,none⟩ p).setCell ⟨w.heap.size+1,1,none⟩ q).drew.cell? ⟨w2.heap.size,0,none⟩=some (.string W)∧((w6.setCell ⟨w.heap.size+1,0,none⟩ p).setCell ⟨w.heap.size+1,1,none⟩ q).drew.cell? ⟨w2.heap.size,1,none⟩=some (.int .i64 1) from
  ⟨(World.cell?_of_block (far2 w6 (w.heap.size+1) p q w2.heap.size (by omega))).trans y3,(World.cell?_of_block (far2 w6 (w.heap.size+1) p q w2.heap.size (by omega))).trans y4⟩)
 have E0:=Lib.hid e0
 have E1:=Lib.hid e1
 have HB:=Lib.hid b6
 have HY:=Lib.hid (show Below w.heap.size w w6 from hb0.trans (hy6.mono (by omega)))
 clear g0 g1 g2 g3 g4 y0 y1 y2 hx6 hy6 hb6 hd3 e0 e1 b6 hx2 hx3
 go_wp2_with fail
 go_region_held3 (fun W'=>W'.cell? ⟨w2.heap.size,0,none⟩=some (.string W)∧W'.cell? ⟨w2.heap.size,1,none⟩=some (.int .i64 1))
  (first
    | exact HK.out _ _
    | go_keep)
  (first
    | (go_at_call 54;refine (c_any1 b g 1 1 _ (by exact E1.out)).mono ?_;rintro e w' ⟨rfl,rfl⟩))
 go_wp2_with fail
 obtain ⟨k0,k1⟩:=put2 (.string W) (.int .i64 1) HB.out
 refine bodyPost_ret (v:=.tuple #[.agg #[.string W,.int .i64 1],.bool (decide (b=0))]) (by simp [results,Tryd.f33,go_sem,k0,k1]) rfl ?_
 exact ⟨rfl,(HY.out.drew.setCell (p:=⟨w.heap.size+1,0,none⟩) (by simp) _).setCell (p:=⟨w.heap.size+1,1,none⟩) (by simp) _⟩
set_option maxRecDepth 8000 in
set_option maxHeartbeats 4000000 in
theorem c_form2 (k:Nat) (W:ByteArray) (a b:Int) (hk:k<=4) (hA:(#[.string ⟨#[99,111,109,101]⟩,.int .i64 2,.string ⟨#[103,111]⟩,.int .i64 0,.string ⟨#[110,101,101,100]⟩,.int .i64 1,.string ⟨#[108,97,116,101,114]⟩,.int .i64 1,.string ⟨#[98,97,99,107]⟩,.int .i64 0]:Array Value)[k * 2]?=some (.string W)∧(#[.string ⟨#[99,111,109,101]⟩,.int .i64 2,.string ⟨#[103,111]⟩,.int .i64 0,.string ⟨#[110,101,101,100]⟩,.int .i64 1,.string ⟨#[108,97,116,101,114]⟩,.int .i64 1,.string ⟨#[98,97,99,107]⟩,.int .i64 0]:Array Value)[k * 2+1]?=some (.int .i64 2)) (w:World) :
  Calls Tryd.prog 33 #[.agg #[.int .i64 (k:Int),.int .i64 a,.int .i64 b]] w fun e w'=>e=.returned (.tuple #[.agg #[.string W,.int .i64 2],.bool (true)])∧Below w.heap.size w w':=by
 have hd:decide ((0:Int)<=(k:Int)∧(k:Int)<=4)=true:=decide_eq_true (by omega)
 have HD:=Lib.hid hd
 obtain ⟨w0,hw0⟩:∃ w0,(w.alloc (.cells #[.int .i64 (k:Int),.int .i64 a,.int .i64 b] 24)).alloc (.cells #[.string ⟨#[]⟩,.int .i64 0] 54)=w0:=⟨_,rfl⟩
 have hz0:w0.heap.size=w.heap.size+2:=by rw [<- hw0];simp
 have hb0:Below w.heap.size w w0:=by rw [<- hw0];exact ((Below.refl _ w).alloc (Nat.le_refl _) _).alloc (by simp) _
 have bD:w0.heap[w.heap.size]?=some (.cells #[.int .i64 (k:Int),.int .i64 a,.int .i64 b] 24 (0,0)):=by rw [<- hw0];exact (Below.heap_alloc _ _ _ (by simp)).trans (heap_alloc_new _ _)
 have bR:w0.heap[w.heap.size+1]?=some (.cells #[.string ⟨#[]⟩,.int .i64 0] 54 (0,0)):=by
  rw [<- hw0]
  have h:=heap_alloc_new (w.alloc (.cells #[.int .i64 (k:Int),.int .i64 a,.int .i64 b] 24)) (.cells #[.string ⟨#[]⟩,.int .i64 0] 54)
  rwa [show (w.alloc (.cells #[.int .i64 (k:Int),.int .i64 a,.int .i64 b] 24)).heap.size=w.heap.size+1 by simp] at h
 have HS:=Lib.hid (fun (W':World) (hb:Below (w.heap.size+1) w0 W')=>show W'.cell? ⟨w.heap.size,0,none⟩=some (.int .i64 (k:Int))∧W'.cell? ⟨w.heap.size,1,none⟩=some (.int .i64 a)∧W'.cell? ⟨w.heap.size,2,none⟩=some (.int .i64 b) from by
  have b:=(hb.block w.heap.size (by omega)).trans bD
  exact ⟨cell_of_row _ w.heap.size 0 _ _ _ b,cell_of_row _ w.heap.size 1 _ _ _ b,cell_of_row _ w.heap.size 2 _ _ _ b⟩)
 have p1:(0:Int)<=(k:Int):=by omega
 have p2:(k:Int) < 5:=by omega
 clear bD hk hd
 go_enter Tryd.func33,Tryd.ntmps33
 go_wp2_with fail
 refine (c_deedForms _).mono ?_
 rintro e w1 ⟨rfl,hb1⟩
 have hz1:=hb1.size
 have c0:=(HS.out (w1.alloc (.cells #[.string ⟨#[99,111,109,101]⟩,.int .i64 2,.string ⟨#[103,111]⟩,.int .i64 0,.string ⟨#[110,101,101,100]⟩,.int .i64 1,.string ⟨#[108,97,116,101,114]⟩,.int .i64 1,.string ⟨#[98,97,99,107]⟩,.int .i64 0] 66)) ((hb1.alloc hz1 _).mono (by omega))).1
 go_wp2_with fail
 refine (c_within _ _ _ _).mono ?_
 rintro e w' ⟨rfl,rfl⟩
 rw [HD.out]
 clear c0
 obtain ⟨w2,hw2⟩:∃ w2,w1.alloc (.cells #[.string ⟨#[99,111,109,101]⟩,.int .i64 2,.string ⟨#[103,111]⟩,.int .i64 0,.string ⟨#[110,101,101,100]⟩,.int .i64 1,.string ⟨#[108,97,116,101,114]⟩,.int .i64 1,.string ⟨#[98,97,99,107]⟩,.int .i64 0] 66)=w2:=⟨_,rfl⟩
 have hb2:Below w1.heap.size w1 w2:=by rw [<- hw2];exact (Below.refl _ w1).alloc (Nat.le_refl _) _
 have hz2:w2.heap.size=w1.heap.size+1:=by rw [<- hw2];simp
 have bF:w2.heap[w1.heap.size]?=some (.cells #[.string ⟨#[99,111,109,101]⟩,.int .i64 2,.string ⟨#[103,111]⟩,.int .i64 0,.string ⟨#[110,101,101,100]⟩,.int .i64 1,.string ⟨#[108,97,116,101,114]⟩,.int .i64 1,.string ⟨#[98,97,99,107]⟩,.int .i64 0] 66 (0,0)):=by rw [<- hw2];exact heap_alloc_new _ _
 have x0:=(cell_of_row _ w1.heap.size (k * 2) _ _ _ bF).trans hA.1
 have x1:=(cell_of_row _ w1.heap.size (k * 2+1) _ _ _ bF).trans hA.2
 have hx2:=hb1.trans (hb2.mono hz1)
 obtain ⟨c0,c1,c2⟩:=HS.out _ (hx2.mono (by omega))
 rw [hw2]
 clear bF hA hw2
 have hlt2:w1.heap.size < w2.heap.size:=by omega
 clear hz2
 go_wp2_with fail
 obtain ⟨w3,hw3⟩:∃ w3,w2.alloc (.cells #[.string W,.int .i64 2] 54)=w3:=⟨_,rfl⟩
 have hb3:Below w2.heap.size w2 w3:=by rw [<- hw3];exact (Below.refl _ w2).alloc (Nat.le_refl _) _
 have hz3:w2.heap.size < w3.heap.size:=by rw [<- hw3];simp
 have bG:w3.heap[w2.heap.size]?=some (.cells #[.string W,.int .i64 2] 54 (0,0)):=by rw [<- hw3];exact heap_alloc_new _ _
 rw [hw3]
 have hx3:=hx2.trans (hb3.mono (by omega))
 have HG:=Lib.hid (fun (W':World) (hb:Below w3.heap.size w3 W')=>show W'.cell? ⟨w.heap.size,0,none⟩=some (.int .i64 (k:Int))∧W'.cell? ⟨w.heap.size,1,none⟩=some (.int .i64 a)∧W'.cell? ⟨w.heap.size,2,none⟩=some (.int .i64 b)∧W'.cell? ⟨w2.heap.size,0,none⟩=some (.string W)∧W'.cell? ⟨w2.heap.size,1,none⟩=some (.int .i64 2) from by
  have b:=(hb.block w2.heap.size (by omega)).trans bG
  obtain ⟨s0,s1,s2⟩:=HS.out W' ((hx3.trans (hb.mono (by omega))).mono (by omega))
  exact ⟨s0,s1,s2,cell_of_row _ w2.heap.size 0 _ _ _ b,cell_of_row _ w2.heap.size 1 _ _ _ b⟩)
 obtain ⟨g0,g1,g2,g3,g4⟩:=HG.out _ (Below.refl _ w3)
 have hd3:Below w3.heap.size w3 w3.drew:=(Below.refl _ w3).drew
 clear bG hb2 hb3 hw0 hw3 c0 c1 c2 x0 x1
 go_region_held3 (fun W'=>W'.cell? ⟨w.heap.size,0,none⟩=some (.int .i64 (k:Int))∧W'.cell? ⟨w.heap.size,1,none⟩=some (.int .i64 a)∧W'.cell? ⟨w.heap.size,2,none⟩=some (.int .i64 b)∧W'.cell? ⟨w2.heap.size,0,none⟩=some (.string W)∧W'.cell? ⟨w2.heap.size,1,none⟩=some (.int .i64 2))
  (first
    | go_keep
    | exact HG.out _ hx6)
  (first
    | (go_at_call 34;refine (c_numbers _ _ _ _).mono ?_;rintro e w6 ⟨g,rfl,e0,e1,hg,hb6⟩;have hx6:Below w3.heap.size w3 w6:=hd3.trans hb6))
 obtain ⟨y0,y1,y2,y3,y4⟩:=HG.out _ hx6
 have hy6:=hx3.trans (hx6.mono (by omega))
 have b6:=(hy6.block (w.heap.size+1) (by omega)).trans bR
 have r0:=cell_of_row _ (w.heap.size+1) 0 _ _ _ b6
 have r1:=cell_of_row _ (w.heap.size+1) 1 _ _ _ b6
 have f0:w6.frozen? ⟨w.heap.size+1,0,none⟩=false:=unfrozenB b6
 have f1:w6.frozen? ⟨w.heap.size+1,1,none⟩=false:=unfrozenB b6
 have hlR:w.heap.size+1 < w2.heap.size:=by omega
 have HK:=Lib.hid (fun (p q:Value)=>show ((w6.setCell ⟨w.heap.size+1,0,none⟩ p).setCell ⟨w.heap.size+1,1,none⟩ q).drew.cell? ⟨w2.heap.size,0,none⟩=some (.string W)∧((w6.setCell ⟨w.heap.size+1,0,none⟩ p).setCell ⟨w.heap.size+1,1,none⟩ q).drew.cell? ⟨w2.heap.size,1,none⟩=some (.int .i64 2) from
  ⟨(World.cell?_of_block (far2 w6 (w.heap.size+1) p q w2.heap.size (by omega))).trans y3,(World.cell?_of_block (far2 w6 (w.heap.size+1) p q w2.heap.size (by omega))).trans y4⟩)
 have E0:=Lib.hid e0
 have E1:=Lib.hid e1
 have HB:=Lib.hid b6
 have HY:=Lib.hid (show Below w.heap.size w w6 from hb0.trans (hy6.mono (by omega)))
 clear g0 g1 g2 g3 g4 y0 y1 y2 hx6 hy6 hb6 hd3 e0 e1 b6 hx2 hx3
 go_wp2_with fail
 go_region_held3 (fun W'=>W'.cell? ⟨w2.heap.size,0,none⟩=some (.string W)∧W'.cell? ⟨w2.heap.size,1,none⟩=some (.int .i64 2))
  (first
    | exact HK.out _ _
    | go_keep)
  (first
    | (go_at_call 54;refine (c_any0 _ _ _).mono ?_;rintro e w' ⟨rfl,rfl⟩))
 go_wp2_with fail
 obtain ⟨k0,k1⟩:=put2 (.string W) (.int .i64 2) HB.out
 refine bodyPost_ret (v:=.tuple #[.agg #[.string W,.int .i64 2],.bool (true)]) (by simp [results,Tryd.f33,go_sem,k0,k1]) rfl ?_
 exact ⟨rfl,(HY.out.drew.setCell (p:=⟨w.heap.size+1,0,none⟩) (by simp) _).setCell (p:=⟨w.heap.size+1,1,none⟩) (by simp) _⟩
set_option maxRecDepth 8000 in
set_option maxHeartbeats 4000000 in
theorem c_formNo (k a b:Int) (hk:¬ (0<=k∧k<=4)) (w:World) :
  Calls Tryd.prog 33 #[.agg #[.int .i64 k,.int .i64 a,.int .i64 b]] w fun e w'=>(∃ f,e=.returned (.tuple #[f,.bool (formOk k a b)])∧(0<=k∧k<=4->f=formVal k)∧∃ W n,f=.agg #[.string W,.int .i64 n])∧Below w.heap.size w w':=by
 have HD:=Lib.hid (show decide ((0:Int)<=k∧k<=4)=false from decide_eq_false hk)
 have HV:=Lib.hid (formOk_no (a:=a) (b:=b) hk)
 have HK:=Lib.hid hk
 obtain ⟨w0,hw0⟩:∃ w0,(w.alloc (.cells #[.int .i64 k,.int .i64 a,.int .i64 b] 24)).alloc (.cells #[.string ⟨#[]⟩,.int .i64 0] 54)=w0:=⟨_,rfl⟩
 have hz0:w0.heap.size=w.heap.size+2:=by rw [<- hw0];simp
 have hb0:Below w.heap.size w w0:=by rw [<- hw0];exact ((Below.refl _ w).alloc (Nat.le_refl _) _).alloc (by simp) _
 have bD:w0.heap[w.heap.size]?=some (.cells #[.int .i64 k,.int .i64 a,.int .i64 b] 24 (0,0)):=by rw [<- hw0];exact (Below.heap_alloc _ _ _ (by simp)).trans (heap_alloc_new _ _)
 have bR:w0.heap[w.heap.size+1]?=some (.cells #[.string ⟨#[]⟩,.int .i64 0] 54 (0,0)):=by
  rw [<- hw0]
  have h:=heap_alloc_new (w.alloc (.cells #[.int .i64 k,.int .i64 a,.int .i64 b] 24)) (.cells #[.string ⟨#[]⟩,.int .i64 0] 54)
  rwa [show (w.alloc (.cells #[.int .i64 k,.int .i64 a,.int .i64 b] 24)).heap.size=w.heap.size+1 by simp] at h
 clear hk
 go_enter Tryd.func33,Tryd.ntmps33
 go_wp2_with fail
 refine (c_deedForms _).mono ?_
 rintro e w1 ⟨rfl,hb1⟩
 have hz1:=hb1.size
 have hx:=hb1.alloc hz1 (.cells #[.string ⟨#[99,111,109,101]⟩,.int .i64 2,.string ⟨#[103,111]⟩,.int .i64 0,.string ⟨#[110,101,101,100]⟩,.int .i64 1,.string ⟨#[108,97,116,101,114]⟩,.int .i64 1,.string ⟨#[98,97,99,107]⟩,.int .i64 0] 66)
 have c0:=cell_of_row _ w.heap.size 0 _ _ _ ((hx.block w.heap.size (by omega)).trans bD)
 go_wp2_with fail
 refine (c_within _ _ _ _).mono ?_
 rintro e w' ⟨rfl,rfl⟩
 rw [HD.out]
 obtain ⟨w2,hw2⟩:∃ w2,w1.alloc (.cells #[.string ⟨#[99,111,109,101]⟩,.int .i64 2,.string ⟨#[103,111]⟩,.int .i64 0,.string ⟨#[110,101,101,100]⟩,.int .i64 1,.string ⟨#[108,97,116,101,114]⟩,.int .i64 1,.string ⟨#[98,97,99,107]⟩,.int .i64 0] 66)=w2:=⟨_,rfl⟩
 rw [hw2]
 rw [hw2] at hx
 clear hw2 c0
 have b6:=(hx.block (w.heap.size+1) (by omega)).trans bR
 have r0:=cell_of_row _ (w.heap.size+1) 0 _ _ _ b6
 have r1:=cell_of_row _ (w.heap.size+1) 1 _ _ _ b6
 have f0:w2.frozen? ⟨w.heap.size+1,0,none⟩=false:=unfrozenB b6
 have f1:w2.frozen? ⟨w.heap.size+1,1,none⟩=false:=unfrozenB b6
 go_wp2_with fail
 obtain ⟨k0,k1⟩:=put2 (.string ⟨#[]⟩) (.int .i64 0) b6
 refine bodyPost_ret (v:=.tuple #[.agg #[.string ⟨#[]⟩,.int .i64 0],.bool false]) (by simp [results,Tryd.f33,go_sem,k0,k1]) rfl ?_
 exact ⟨⟨_,by rw [HV.out],fun h=>absurd h HK.out,_,_,rfl⟩,((hb0.trans (hx.mono (by omega))).setCell (p:=⟨w.heap.size+1,0,none⟩) (by simp) _).setCell (p:=⟨w.heap.size+1,1,none⟩) (by simp) _⟩
theorem c_form (k a b:Int) (w:World) :
  Calls Tryd.prog 33 #[.agg #[.int .i64 k,.int .i64 a,.int .i64 b]] w fun e w'=>(∃ f,e=.returned (.tuple #[f,.bool (formOk k a b)])∧(0<=k∧k<=4->f=formVal k)∧∃ W n,f=.agg #[.string W,.int .i64 n])∧Below w.heap.size w w':=by
 by_cases hk:0<=k∧k<=4
 ·have hkk:k=0∨k=1∨k=2∨k=3∨k=4:=by omega
  rcases hkk with rfl | rfl | rfl | rfl | rfl
  ·exact (c_form2 0 _ a b (by omega) ⟨rfl,rfl⟩ w).mono fun e w' h=>⟨⟨formVal 0,by rw [h.1];simp [formOk];rfl,fun _=>rfl,_,_,rfl⟩,h.2⟩
  ·exact (c_form0 1 _ a b (by omega) ⟨rfl,rfl⟩ w).mono fun e w' h=>⟨⟨formVal 1,by rw [h.1];simp [formOk];rfl,fun _=>rfl,_,_,rfl⟩,h.2⟩
  ·exact (c_form1 2 _ a b (by omega) ⟨rfl,rfl⟩ w).mono fun e w' h=>⟨⟨formVal 2,by rw [h.1];simp [formOk];rfl,fun _=>rfl,_,_,rfl⟩,h.2⟩
  ·exact (c_form1 3 _ a b (by omega) ⟨rfl,rfl⟩ w).mono fun e w' h=>⟨⟨formVal 3,by rw [h.1];simp [formOk];rfl,fun _=>rfl,_,_,rfl⟩,h.2⟩
  ·exact (c_form0 4 _ a b (by omega) ⟨rfl,rfl⟩ w).mono fun e w' h=>⟨⟨formVal 4,by rw [h.1];simp [formOk];rfl,fun _=>rfl,_,_,rfl⟩,h.2⟩
 ·exact c_formNo k a b hk w
end Go.Proofs.YticccnkanihpnaaDoor
namespace Go.Proofs
open Go.Shelf
def Tryd.lays169_ren:Go.Shelf.Ren:=⟨fun | 169=>52 | n=>n,fun | 70=>77 | 9=>9 | 0=>0 | 72=>79 | 37=>22 | 127=>96 | 3=>3 | 5=>5 | n=>n,fun | n=>n⟩
theorem Tryd.lays169:Go.Proofs.Lays.n169 Tryd.prog Tryd.lays169_ren:={
 mixed:=by kernel_rfl
 f169:=Tryd.func52.trans (congrArg some (by kernel_rfl))
 t0:=Tryd.underlying0
 a0:=Tryd.isAgg0
 z0:=Tryd.sizeOf0
 v0:=Tryd.zeroValue0
 t3:=Tryd.underlying3
 a3:=Tryd.isAgg3
 z3:=Tryd.sizeOf3
 v3:=Tryd.zeroValue3
 t9:=Tryd.underlying9
 a9:=Tryd.isAgg9
 z9:=Tryd.sizeOf9
 v9:=Tryd.zeroValue9
 t37:=Tryd.underlying22
 a37:=Tryd.isAgg22
 z37:=Tryd.sizeOf22
 v37:=Tryd.zeroValue22
 t70:=Tryd.underlying77
 a70:=Tryd.isAgg77
 z70:=Tryd.sizeOf77
 v70:=Tryd.zeroValue77
 t72:=Tryd.underlying79
 a72:=Tryd.isAgg79
 z72:=Tryd.sizeOf79
 v72:=Tryd.zeroValue79
 t127:=Tryd.underlying96
 a127:=Tryd.isAgg96
 z127:=Tryd.sizeOf96
 v127:=Tryd.zeroValue96 }
theorem Tryd.Builder_Extra_169:Builder.Extra Tryd.prog Tryd.lays169_ren:={
 sizeBuilder:=by kernel_rfl
 liesBuilder:=by kernel_rfl
 t5:=Tryd.underlying5
 a5:=Tryd.isAgg5
 z5:=Tryd.sizeOf5
 v5:=Tryd.zeroValue5
 infoByte:=by kernel_rfl
 cellsByte:=by kernel_rfl
 sizeByte:=by kernel_rfl
 neB5:=by decide }
open Go.RowKit in
theorem Tryd.Builder_String_any (B b:Nat) (l:List UInt8) (w:World) (h:Lib.IsBuilder 79 5 B b (Lib.byteCells l) w) (hBw:B<=w.heap.size) :
  Calls Tryd.prog 52 #[.pointer (some ⟨b,0,none⟩)] w fun e w'=>e=.returned (.string ⟨l.toArray⟩)∧Below B w w':=Any.Builder_String_any Tryd.lays169 Tryd.Builder_Extra_169 B b l w h hBw
open Go.RowKit Go.Sort Go.Lib in
def Tryd.lays171_ren:Go.Shelf.Ren:=⟨fun | 171=>36 | 243=>56 | 246=>64 | 283=>71 | 284=>72 | 285=>73 | 286=>74 | 129=>85 | 317=>84 | 318=>86 | 319=>87 | 320=>88 | 337=>97 | 338=>98 | n=>n,fun | 3=>3 | 9=>9 | 2=>2 | 4=>4 | 171=>103 | 0=>0 | 53=>104 | 37=>22 | 5=>5 | 173=>107 | 212=>115 | 51=>116 | 20=>20 | 213=>117 | 46=>113 | 232=>138 | 233=>139 | n=>n,fun | 17=>1 | 18=>6 | 19=>7 | n=>n⟩
theorem Tryd.lays171:Go.Proofs.Lays.n171 Tryd.prog Tryd.lays171_ren:={
 mixed:=by kernel_rfl
 f129:=Tryd.func85.trans (congrArg some (by kernel_rfl))
 f171:=Tryd.func36.trans (congrArg some (by kernel_rfl))
 f243:=Tryd.func56.trans (congrArg some (by kernel_rfl))
 f246:=Tryd.func64.trans (congrArg some (by kernel_rfl))
 f283:=Tryd.func71.trans (congrArg some (by kernel_rfl))
 f284:=Tryd.func72.trans (congrArg some (by kernel_rfl))
 f285:=Tryd.func73.trans (congrArg some (by kernel_rfl))
 f286:=Tryd.func74.trans (congrArg some (by kernel_rfl))
 f317:=Tryd.func84.trans (congrArg some (by kernel_rfl))
 f318:=Tryd.func86.trans (congrArg some (by kernel_rfl))
 f319:=Tryd.func87.trans (congrArg some (by kernel_rfl))
 f320:=Tryd.func88.trans (congrArg some (by kernel_rfl))
 f337:=Tryd.func97.trans (congrArg some (by kernel_rfl))
 f338:=Tryd.func98.trans (congrArg some (by kernel_rfl))
 t0:=Tryd.underlying0
 a0:=Tryd.isAgg0
 z0:=Tryd.sizeOf0
 v0:=Tryd.zeroValue0
 t2:=Tryd.underlying2
 a2:=Tryd.isAgg2
 z2:=Tryd.sizeOf2
 v2:=Tryd.zeroValue2
 t3:=Tryd.underlying3
 a3:=Tryd.isAgg3
 z3:=Tryd.sizeOf3
 v3:=Tryd.zeroValue3
 t4:=Tryd.underlying4
 a4:=Tryd.isAgg4
 z4:=Tryd.sizeOf4
 v4:=Tryd.zeroValue4
 t5:=Tryd.underlying5
 a5:=Tryd.isAgg5
 z5:=Tryd.sizeOf5
 v5:=Tryd.zeroValue5
 t9:=Tryd.underlying9
 a9:=Tryd.isAgg9
 z9:=Tryd.sizeOf9
 v9:=Tryd.zeroValue9
 t20:=Tryd.underlying20
 a20:=Tryd.isAgg20
 z20:=Tryd.sizeOf20
 v20:=Tryd.zeroValue20
 t37:=Tryd.underlying22
 a37:=Tryd.isAgg22
 z37:=Tryd.sizeOf22
 v37:=Tryd.zeroValue22
 t46:=Tryd.underlying113
 a46:=Tryd.isAgg113
 z46:=Tryd.sizeOf113
 v46:=Tryd.zeroValue113
 t51:=Tryd.underlying116
 a51:=Tryd.isAgg116
 z51:=Tryd.sizeOf116
 v51:=Tryd.zeroValue116
 t53:=Tryd.underlying104
 a53:=Tryd.isAgg104
 z53:=Tryd.sizeOf104
 v53:=Tryd.zeroValue104
 t171:=Tryd.underlying103
 a171:=Tryd.isAgg103
 z171:=Tryd.sizeOf103
 v171:=Tryd.zeroValue103
 t173:=Tryd.underlying107
 a173:=Tryd.isAgg107
 z173:=Tryd.sizeOf107
 v173:=Tryd.zeroValue107
 t212:=Tryd.underlying115
 a212:=Tryd.isAgg115
 z212:=Tryd.sizeOf115
 v212:=Tryd.zeroValue115
 t213:=Tryd.underlying117
 a213:=Tryd.isAgg117
 z213:=Tryd.sizeOf117
 t232:=Tryd.underlying138
 a232:=Tryd.isAgg138
 z232:=Tryd.sizeOf138
 v232:=Tryd.zeroValue138
 t233:=Tryd.underlying139
 a233:=Tryd.isAgg139
 z233:=Tryd.sizeOf139
 v233:=Tryd.zeroValue139
 g17:=by kernel_rfl
 g18:=by kernel_rfl
 g19:=by kernel_rfl }
open Go.RowKit Go.Sort Go.Lib in
theorem Tryd.strconv_Itoa_small (i:Nat) (hi:i < 100) (w:World) :
  Calls Tryd.prog 36 #[.int .i64 i] w fun e w'=>e=.returned (.string ⟨(Lib.decDigits i).toArray⟩)∧w'=w:=Any.strconv_Itoa_small Tryd.lays171 i hi w
end Go.Proofs
namespace Go.Proofs.YticccnkanihpnaaDoor
set_option linter.unusedVariables false
open Go.RowKit
theorem dec_num:∀ n,Lib.decDigits n=numL n:=by
 intro n
 induction n using Nat.strongRecOn with
 | _ n ih =>
  rw [Lib.decDigits,numL]
  by_cases h:n < 10
  ·rw [dif_pos h,if_pos h,dig8,Nat.mod_eq_of_lt h]
  ·rw [dif_neg h,if_neg h,ih (n / 10) (by omega),dig8]
theorem c_itoaSmall (n:Nat) (w:World) (hn:n < 100) :
  Calls Tryd.prog 36 #[.int .i64 (n:Int)] w fun e w'=>e=.returned (.string (bs (numL n)))∧w=w' :=
 (Tryd.strconv_Itoa_small n hn w).mono fun e w' ⟨he,hw⟩=>by
   rw [dec_num] at he
   exact ⟨he,hw.symm⟩
end Go.Proofs.YticccnkanihpnaaDoor
namespace Go.Proofs.YticccnkanihpnaaDoor
set_option linter.unusedVariables false
open Go.RowKit
def wordJ:Nat->List UInt8
 | 0=>wCome
 | 1=>wGo
 | 2=>wNeed
 | 3=>wLater
 | _=>wBack
def numJ:Nat->Nat
 | 0=>2
 | 1=>0
 | 2=>1
 | 3=>1
 | _=>0
end Go.Proofs.YticccnkanihpnaaDoor

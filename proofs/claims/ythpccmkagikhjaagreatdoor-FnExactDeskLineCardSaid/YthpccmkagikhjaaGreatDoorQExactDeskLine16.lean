import Derived.Test.YthpccmkagikhjaaGreatDoorQExactDeskLine11
import Derived.Test.YthpccmkagikhjaaGreatDoorQExactDeskLine13
namespace Go.Proofs.YthpccmkagikhjaaGreatDoor
set_option linter.unusedVariables false
open Go.RowKit
set_option maxRecDepth 4000
set_option maxHeartbeats 8000000
section
attribute [local go_sem ↓] Go.wp_at_zero Go.wp_at_succ
theorem insF_at {e:Int}:∀ (T:List Int) (j:Nat),j<=T.length->(∀ i,i < j->Z T i<=e)->(j < T.length->e < Z T j)->insF e T=T.take j++e::T.drop j:=by
 intro T
 induction T with
 | nil =>
  intro j hj _ _
  obtain rfl:j=0:=by simpa using hj
  rfl
 | cons f r ih =>
  intro j hj h1 h2
  cases j with
  | zero =>
   have:=h2 (by simp)
   simp only [Z,List.getD_cons_zero] at this
   simp only [insF];rw [if_neg (by omega)];rfl
  | succ j =>
   have:=h1 0 (by omega)
   simp only [Z,List.getD_cons_zero] at this
   simp only [insF];rw [if_pos this,ih j (by simpa using hj) (fun i hi=>by have:=h1 (i+1) (by omega);simpa [Z] using this) (fun hl=>by have:=h2 (by simpa using hl);simpa [Z] using this)]
   rfl
def shF (F:List Int) (j:Nat):List Int:=F.tail.take j++F.drop j
theorem shF_zero (F:List Int):shF F 0=F:=by simp [shF]
theorem shF_Z {F:List Int} {j i:Nat} (h:j+1<=F.length) (hi:j<=i):Z (shF F j) i=Z F i:=by
 have hl:(F.tail.take j).length=j:=by rw [List.length_take,List.length_tail];omega
 simp only [Z,shF,List.getD_eq_getElem?_getD]
 rw [List.getElem?_append_right (by omega),hl,List.getElem?_drop]
 congr 2;omega
theorem shF_set {F:List Int} {j:Nat} (h:j+1<=F.length) (v:Int):(shF F j).set j v=F.tail.take j++v::F.tail.drop j:=by
 have hl:(F.tail.take j).length=j:=by rw [List.length_take,List.length_tail];omega
 have e:F.drop j=Z F j::F.tail.drop j:=by
  cases F with
  | nil=>simp at h
  | cons f r =>
   rw [List.drop_eq_getElem_cons (by omega)]
   simp only [Z,List.getD_eq_getElem?_getD,List.getElem?_eq_getElem (show j < (f::r).length by omega),Option.getD_some,List.tail_cons,List.drop_succ_cons]
 rw [shF,e,List.set_append_right _ _ (by omega),hl]
 simp
theorem shF_succ {F:List Int} {j:Nat} (h:j+1 < F.length):shF F (j+1)=(shF F j).set j (Z F (j+1)):=by
 rw [shF_set (by omega)]
 cases F with
 | nil=>simp at h
 | cons f r =>
  have hj:j < r.length:=by simpa using h
  simp only [shF,List.tail_cons,List.drop_succ_cons]
  rw [List.take_succ_eq_append_getElem hj,List.append_assoc]
  congr 1
  rw [List.drop_eq_getElem_cons hj]
  simp [Z,hj]
theorem shF_end {F:List Int} {j:Nat} {e:Int} (h:j+1<=F.length) (h1:∀ i,i < j->Z F (i+1)<=e) (h2:j+1 < F.length->e < Z F (j+1)):(shF F j).set j e=insF e F.tail:=by
 rw [shF_set h,insF_at F.tail j (by rw [List.length_tail];omega)]
 ·intro i hi
  have:=h1 i hi
  cases F with
  | nil=>simp at h
  | cons f r=>simpa [Z] using this
 ·intro hl
  rw [List.length_tail] at hl
  have:=h2 (by omega)
  cases F with
  | nil=>simp at h
  | cons f r=>simpa [Z] using this
theorem headD_Z (F:List Int):F.headD 0=Z F 0:=by cases F <;> rfl
theorem c_l10Begins (L:List (Int×Int)) (hok:cOk L=true) (cn:Nat) (hc1:1<=cn) (hc4:cn<=4) (A:Option Addr) (c:Nat) (w:World) (hA:Cs w w.heap.size A L) :
  Calls Tryz.prog 124 #[.slice A L.length c,.int .i64 (cn:Int)] w fun e w'=>∃ v,e=.returned v∧IO w' w.heap.size v (beginsTo L cn L.length)∧Below w.heap.size w w':=by
 have hlen:=cOk_len hok
 have HX:=Lib.hid (fun k (hk:k < L.length)=>cOk_bd hok hk)
 have HFl:=Lib.hid (freeK_len L hc1)
 have HFb:=Lib.hid (freeK_bd hok hc1)
 have HS:=Lib.hid (freeK_succ L cn)
 have HB:=Lib.hid (fun k (hk:k < L.length)=>bgn_bd hok hc1 hk)
 have HBe:=Lib.hid (fun k=>show bgn L cn k=max (Z (freeK L cn k) 0) (X L k) by simp only [bgn,bgnOf,headD_Z])
 have HZ:=Lib.hid (fun k i (hk:k<=L.length) (hi:i < cn)=>show 0<=Z (freeK L cn k) i∧Z (freeK L cn k) i<=300 from by
  have hl:=freeK_len L hc1 k
  have e:Z (freeK L cn k) i=(freeK L cn k)[i]:=by simp only [Z,List.getD_eq_getElem?_getD,List.getElem?_eq_getElem (show i < (freeK L cn k).length by omega),Option.getD_some]
  rw [e]
  exact freeK_bd hok hc1 k hk _ (List.getElem_mem _))
 have HF0:=Lib.hid (show List.replicate cn 0=freeK L cn 0 from rfl)
 clear hok
 go_enter Tryz.func124,Tryz.ntmps124
 go_wp2_with (refine make_I ?_ (.tmp 11) ?_ w.heap.size cn ?_ ?_ ?_ ?_;rfl;rfl;rfl;omega;exact Nat.le_refl _;intro w2 hown2 hg2)
 rw [HF0.out] at hown2
 have hb2:Below w.heap.size w w2:=(Below.refl _ _).grown hg2 (Nat.le_refl _) (fun k e=>by cases e)
 have hs2:w.heap.size+1<=w2.heap.size:=by have:=owns_lt hown2 w.heap.size rfl;omega
 have own0:=IO.empty w2 hs2
 have free0:=hown2.alloc (.cells #[] 3)
 have hb3:=hb2.alloc (by omega) (.cells #[] 3)
 clear hown2 hg2 hb2
 go_wp2_with fail
 go_loopw [6,7] (fun o i wr=>∃ k:Nat,k<=L.length∧i=.int .i64 k∧IO wr (w.heap.size+1) o (beginsTo L cn k)∧IO wr w.heap.size (.slice (some ⟨w.heap.size,0,none⟩) cn cn) (freeK L cn k)∧Below w.heap.size w wr∧w.heap.size+1<=wr.heap.size) (fun _ i _=>L.length - (intOf i).toNat)
 case atStart=>exact ⟨0,by omega,rfl,own0,free0,hb3,by simp;omega⟩
 case round =>
  obtain ⟨k,hk,rfl,hown,hfree,hb,hz⟩:=hrel
  have hsz:=hb.size
  by_cases hlt:k < L.length
  ·obtain ⟨b,off,rfl,hlb,hc⟩:=hA (by omega)
   have c1:=(hb.cell (p:=⟨b,off+k * 2,none⟩) hlb).trans (hc k hlt).1
   have c2:=(hc k hlt).2
   have f0:=(hfree.cells).2.1 0 (by omega)
   have q1:(0:Int)<=(k:Int):=by omega
   have q2:(k:Int) < (L.length:Int):=by omega
   have q0:(0:Int) < (cn:Int):=by omega
   have hbe:=HBe.out k
   have hbb:=HB.out k hlt
   have hxy:=HX.out k hlt
   have HL:=Lib.hid (beginsTo_succ L cn k)
   have HLl:=Lib.hid (beginsTo_len L cn k)
   by_cases hm:Z (freeK L cn k) 0 < X L k
   ·have dm:decide (Z (freeK L cn k) 0 < X L k)=true:=decide_eq_true hm
    have he:X L k=bgn L cn k:=by omega
    have b1:0<=X L k:=by omega
    have b2:X L k<=200:=by omega
    have HE:=Lib.hid he
    have q5:(beginsTo L cn k).length<=1000000000000:=by rw [HLl.out];omega
    clear he hbe hbb
    go_wp2_with fail
    go_quiet (fail)
    clear c1 f0
    have hbq:Below w.heap.size w (wr.drewN nq):=by (repeat (first | exact hb | exact Below.refl _ _ | (with_reducible refine Below.drew ?_) | (with_reducible refine Below.drewN ?_ _) | (with_reducible refine Below.alloc ?_ ?_ _) | (with_reducible refine Below.setCell ?_ ?_ _) | (show _<=_;focus (first | omega | (simp;done) | (simp;omega)))))
    have hownq:IO (wr.drewN nq) (w.heap.size+1) u6 (beginsTo L cn k):=hown
    have hfreeq:IO (wr.drewN nq) w.heap.size (.slice (some ⟨w.heap.size,0,none⟩) cn cn) (freeK L cn k):=hfree
    have hzq:w.heap.size+1<=(wr.drewN nq).heap.size:=hz
    generalize wr.drewN nq=wq at *
    clear hown hb hfree hz hsz
    have hsq:=hbq.size
    have q6:w.heap.size+1<=(wq.alloc (.cells #[.int .i64 (X L k)] 3)).heap.size:=by simp;omega
    have hba:=hbq.alloc hsq (.cells #[.int .i64 (X L k)] 3)
    have q9:IntKind.i64.wrap (X L k+Y L k)=X L k+Y L k:=IntWalk.i64_in _ (by omega)
    go_wp2_with (refine app_I (by rfl) (.tmp 29) (.tmp 31) (by rfl) (w.heap.size+1) u6 (beginsTo L cn k) (X L k) wq.heap.size (by rfl) (hownq.alloc _) (by rfl) (heap_alloc_new _ _) q5 q6 ?_;intro g cap w7 hown7 hgr7 hb7;have hx7:Below w.heap.size w w7:=hba.trans (hb7.mono (by omega));have c9:=(hx7.cell (p:=⟨b,off+k * 2+1,none⟩) hlb).trans c2)
    have hfree7:IO w7 w.heap.size (.slice (some ⟨w.heap.size,0,none⟩) cn cn) (freeK L cn k):=(hfreeq.alloc _).grownR' hgr7 (fun r e e2=>by
     have h3:r=w.heap.size:=by simpa [Value.ownBlock] using e.symm
     have:=owns_base hownq _ e2
     omega)
    have hz7:w.heap.size+1<=w7.heap.size:=by have:=hgr7.size;simp at this;omega
    have HLk:=Lib.hid (HL.out)
    rw [HLl.out] at hown7
    clear hownq hfreeq hbq hba hgr7 hb7 hzq c9 q9
    rw [HLl.out]
    generalize he9:X L k+Y L k=e9 at *
    have HE9:=Lib.hid he9
    clear he9
    go_loopw [10] (fun a wx=>∃ j:Nat,j+1<=cn∧a=.int .i64 (j:Int)∧IO wx w.heap.size (.slice (some ⟨w.heap.size,0,none⟩) cn cn) (shF (freeK L cn k) j)∧Hid (∀ i,i < j->Z (freeK L cn k) (i+1)<=e9)∧IO wx (w.heap.size+1) (.slice (some ⟨g,0,none⟩) (k+1) cap) (beginsTo L cn (k+1))∧Below w.heap.size w wx∧w.heap.size+1<=wx.heap.size) (fun a _=>cn - (intOf a).toNat)
    case atStart=>exact ⟨0,by omega,rfl,by rw [shF_zero];exact hfree7,Lib.hid (fun i hi=>by omega),by rw [HL.out,<- HE.out];exact hown7,hx7,hz7⟩
    case round =>
     clear hfree7 hown7 hx7 hz7
     obtain ⟨j,hj,rfl,hfr,hle,hout,hbx,hzx⟩:=hrel
     have hl:=HFl.out k
     have HQ:=Lib.hid hl
     have z1:(0:Int)<=(j:Int):=by omega
     have z2:(j:Int) < (cn:Int):=by omega
     have z3:(0:Int)<=(j:Int)+1:=by omega
     have z4:((j:Int)+1).toNat=j+1:=by omega
     obtain ⟨-,cs,fz⟩:=hfr.cells
     have fj:=fz j
     have cj:=cs j hj
     by_cases h1:j+1 < cn
     ·have z5:(j:Int)+1 < (cn:Int):=by omega
      have cj1:=cs (j+1) h1
      rw [shF_Z (by omega) (by omega)] at cj1
      by_cases h2:Z (freeK L cn k) (j+1)<=e9
      ·have d2:decide (Z (freeK L cn k) (j+1)<=e9)=true:=decide_eq_true h2
       have HSS:=Lib.hid (shF_succ (F:=freeK L cn k) (j:=j) (by omega))
       have HFR:=Lib.hid (hfr.store j (Z (freeK L cn k) (j+1)))
       have HLE:=Lib.hid (show ∀ i,i < j+1->Z (freeK L cn k) (i+1)<=e9 from fun i hi=>by
        by_cases e:i=j
        ·subst e;exact h2
        ·exact hle.out i (by omega))
       clear hl cs fz hfr h2
       go_wp2_with fail
       go_roundw
       case rel=>exact ⟨j+1,by omega,by go_num,by rw [HSS.out];exact HFR.out,HLE,hout.setLow (by omega),hbx.setCell (p:=⟨w.heap.size,j,none⟩) (Nat.le_refl _) _,by simp [World.setCell];omega⟩
       case measure=>simp [intOf];omega
      ·have d2:decide (Z (freeK L cn k) (j+1)<=e9)=false:=decide_eq_false h2
       have HEN:=Lib.hid (show freeK L cn (k+1)=(shF (freeK L cn k) j).set j e9 by rw [HS.out,<- HE.out,HE9.out];exact (shF_end (by omega) hle.out (fun _=>by omega)).symm)
       have HFR:=Lib.hid (hfr.store j e9)
       clear hl cs fz hfr h2
       go_wp2_with fail
       go_roundw
       case rel=>exact ⟨k+1,by omega,by go_num,hout.setLow (by omega),by rw [HEN.out];exact HFR.out,hbx.setCell (p:=⟨w.heap.size,j,none⟩) (Nat.le_refl _) _,by simp [World.setCell];omega⟩
       case measure=>simp [intOf];omega
     ·have z5:¬ (j:Int)+1 < (cn:Int):=by omega
      have HEN:=Lib.hid (show freeK L cn (k+1)=(shF (freeK L cn k) j).set j e9 by rw [HS.out,<- HE.out,HE9.out];exact (shF_end (by omega) hle.out (fun hh=>by omega)).symm)
      have HFR:=Lib.hid (hfr.store j e9)
      clear hl cs fz hfr
      go_wp2_with fail
      go_roundw
      case rel=>exact ⟨k+1,by omega,by go_num,hout.setLow (by omega),by rw [HEN.out];exact HFR.out,hbx.setCell (p:=⟨w.heap.size,j,none⟩) (Nat.le_refl _) _,by simp [World.setCell];omega⟩
      case measure=>simp [intOf];omega
   ·have dm:decide (Z (freeK L cn k) 0 < X L k)=false:=decide_eq_false hm
    have he:Z (freeK L cn k) 0=bgn L cn k:=by omega
    have b1:0<=Z (freeK L cn k) 0:=by omega
    have b2:Z (freeK L cn k) 0<=200:=by omega
    have HE:=Lib.hid he
    have q5:(beginsTo L cn k).length<=1000000000000:=by rw [HLl.out];omega
    clear he hbe hbb
    go_wp2_with fail
    go_quiet (fail)
    clear c1 f0
    have hbq:Below w.heap.size w (wr.drewN nq):=by (repeat (first | exact hb | exact Below.refl _ _ | (with_reducible refine Below.drew ?_) | (with_reducible refine Below.drewN ?_ _) | (with_reducible refine Below.alloc ?_ ?_ _) | (with_reducible refine Below.setCell ?_ ?_ _) | (show _<=_;focus (first | omega | (simp;done) | (simp;omega)))))
    have hownq:IO (wr.drewN nq) (w.heap.size+1) u6 (beginsTo L cn k):=hown
    have hfreeq:IO (wr.drewN nq) w.heap.size (.slice (some ⟨w.heap.size,0,none⟩) cn cn) (freeK L cn k):=hfree
    have hzq:w.heap.size+1<=(wr.drewN nq).heap.size:=hz
    generalize wr.drewN nq=wq at *
    clear hown hb hfree hz hsz
    have hsq:=hbq.size
    have q6:w.heap.size+1<=(wq.alloc (.cells #[.int .i64 (Z (freeK L cn k) 0)] 3)).heap.size:=by simp;omega
    have hba:=hbq.alloc hsq (.cells #[.int .i64 (Z (freeK L cn k) 0)] 3)
    have q9:IntKind.i64.wrap (Z (freeK L cn k) 0+Y L k)=Z (freeK L cn k) 0+Y L k:=IntWalk.i64_in _ (by omega)
    go_wp2_with (refine app_I (by rfl) (.tmp 29) (.tmp 31) (by rfl) (w.heap.size+1) u6 (beginsTo L cn k) (Z (freeK L cn k) 0) wq.heap.size (by rfl) (hownq.alloc _) (by rfl) (heap_alloc_new _ _) q5 q6 ?_;intro g cap w7 hown7 hgr7 hb7;have hx7:Below w.heap.size w w7:=hba.trans (hb7.mono (by omega));have c9:=(hx7.cell (p:=⟨b,off+k * 2+1,none⟩) hlb).trans c2)
    have hfree7:IO w7 w.heap.size (.slice (some ⟨w.heap.size,0,none⟩) cn cn) (freeK L cn k):=(hfreeq.alloc _).grownR' hgr7 (fun r e e2=>by
     have h3:r=w.heap.size:=by simpa [Value.ownBlock] using e.symm
     have:=owns_base hownq _ e2
     omega)
    have hz7:w.heap.size+1<=w7.heap.size:=by have:=hgr7.size;simp at this;omega
    have HLk:=Lib.hid (HL.out)
    rw [HLl.out] at hown7
    clear hownq hfreeq hbq hba hgr7 hb7 hzq c9 q9
    rw [HLl.out]
    generalize he9:Z (freeK L cn k) 0+Y L k=e9 at *
    have HE9:=Lib.hid he9
    clear he9
    go_loopw [10] (fun a wx=>∃ j:Nat,j+1<=cn∧a=.int .i64 (j:Int)∧IO wx w.heap.size (.slice (some ⟨w.heap.size,0,none⟩) cn cn) (shF (freeK L cn k) j)∧Hid (∀ i,i < j->Z (freeK L cn k) (i+1)<=e9)∧IO wx (w.heap.size+1) (.slice (some ⟨g,0,none⟩) (k+1) cap) (beginsTo L cn (k+1))∧Below w.heap.size w wx∧w.heap.size+1<=wx.heap.size) (fun a _=>cn - (intOf a).toNat)
    case atStart=>exact ⟨0,by omega,rfl,by rw [shF_zero];exact hfree7,Lib.hid (fun i hi=>by omega),by rw [HL.out,<- HE.out];exact hown7,hx7,hz7⟩
    case round =>
     clear hfree7 hown7 hx7 hz7
     obtain ⟨j,hj,rfl,hfr,hle,hout,hbx,hzx⟩:=hrel
     have hl:=HFl.out k
     have HQ:=Lib.hid hl
     have z1:(0:Int)<=(j:Int):=by omega
     have z2:(j:Int) < (cn:Int):=by omega
     have z3:(0:Int)<=(j:Int)+1:=by omega
     have z4:((j:Int)+1).toNat=j+1:=by omega
     obtain ⟨-,cs,fz⟩:=hfr.cells
     have fj:=fz j
     have cj:=cs j hj
     by_cases h1:j+1 < cn
     ·have z5:(j:Int)+1 < (cn:Int):=by omega
      have cj1:=cs (j+1) h1
      rw [shF_Z (by omega) (by omega)] at cj1
      by_cases h2:Z (freeK L cn k) (j+1)<=e9
      ·have d2:decide (Z (freeK L cn k) (j+1)<=e9)=true:=decide_eq_true h2
       have HSS:=Lib.hid (shF_succ (F:=freeK L cn k) (j:=j) (by omega))
       have HFR:=Lib.hid (hfr.store j (Z (freeK L cn k) (j+1)))
       have HLE:=Lib.hid (show ∀ i,i < j+1->Z (freeK L cn k) (i+1)<=e9 from fun i hi=>by
        by_cases e:i=j
        ·subst e;exact h2
        ·exact hle.out i (by omega))
       clear hl cs fz hfr h2
       go_wp2_with fail
       go_roundw
       case rel=>exact ⟨j+1,by omega,by go_num,by rw [HSS.out];exact HFR.out,HLE,hout.setLow (by omega),hbx.setCell (p:=⟨w.heap.size,j,none⟩) (Nat.le_refl _) _,by simp [World.setCell];omega⟩
       case measure=>simp [intOf];omega
      ·have d2:decide (Z (freeK L cn k) (j+1)<=e9)=false:=decide_eq_false h2
       have HEN:=Lib.hid (show freeK L cn (k+1)=(shF (freeK L cn k) j).set j e9 by rw [HS.out,<- HE.out,HE9.out];exact (shF_end (by omega) hle.out (fun _=>by omega)).symm)
       have HFR:=Lib.hid (hfr.store j e9)
       clear hl cs fz hfr h2
       go_wp2_with fail
       go_roundw
       case rel=>exact ⟨k+1,by omega,by go_num,hout.setLow (by omega),by rw [HEN.out];exact HFR.out,hbx.setCell (p:=⟨w.heap.size,j,none⟩) (Nat.le_refl _) _,by simp [World.setCell];omega⟩
       case measure=>simp [intOf];omega
     ·have z5:¬ (j:Int)+1 < (cn:Int):=by omega
      have HEN:=Lib.hid (show freeK L cn (k+1)=(shF (freeK L cn k) j).set j e9 by rw [HS.out,<- HE.out,HE9.out];exact (shF_end (by omega) hle.out (fun hh=>by omega)).symm)
      have HFR:=Lib.hid (hfr.store j e9)
      clear hl cs fz hfr
      go_wp2_with fail
      go_roundw
      case rel=>exact ⟨k+1,by omega,by go_num,hout.setLow (by omega),by rw [HEN.out];exact HFR.out,hbx.setCell (p:=⟨w.heap.size,j,none⟩) (Nat.le_refl _) _,by simp [World.setCell];omega⟩
      case measure=>simp [intOf];omega
  ·have hlf:¬ ((k:Int) < (L.length:Int)):=by omega
   obtain rfl:k=L.length:=by omega
   go_wp2_with fail
   go_ret
   exact ⟨_,rfl,hown.mono (by omega),hb⟩
end
section
attribute [local go_sem ↓] Go.wp_at_zero Go.wp_at_succ
theorem counter_nat {c:Int} (h:1<=c∧c<=4):∃ n:Nat,c=(n:Int)∧1<=n∧n<=4∧c.toNat=n:=⟨c.toNat,by omega,by omega,by omega,rfl⟩
theorem c_sWaitSum (L:List (Int×Int)) (A:Option Addr) (d:Nat) (c:Int) (w:World) (hA:Cs w w.heap.size A L) (hn:L.length<=140737488351232) :
  Calls Tryz.prog 80 #[.slice A L.length d,.int .i64 c] w fun e w'=>e=.returned (.int .i64 (waitSumV L c))∧Below w.heap.size w w':=by
 have HC:=Lib.hid (c_sCustomersOk L A d _ hA hn)
 have HI:=Lib.hid (fun W=>c_l1In c 1 4 W)
 cases hok:cOk L with
 | true =>
  have H:=Lib.hid hok
  by_cases hr:1<=c∧c<=4
  ·have hbes:besOk L c=true:=by simp [besOk,hok,hr]
   have HV:=Lib.hid (waitSumV_yes hbes)
   obtain ⟨cn,rfl,h1,h4,hcn⟩:=counter_nat hr
   rw [hcn] at HV
   have HR:=Lib.hid (decide_eq_true hr)
   have HB:=Lib.hid (fun W hW=>c_l10Begins L hok cn h1 h4 A d W hW)
   have Hb:=Lib.hid (fun k (hk:k < L.length)=>bgn_bd hok h1 hk)
   have Hc:=Lib.hid (fun k (hk:k < L.length)=>cOk_bd hok hk)
   have Hw:=Lib.hid (fun k (hk:k<=L.length)=>waitS_bd hok h1 k hk)
   have hlen:=cOk_len hok
   clear hok hr hbes hcn
   go_enter Tryz.func80,Tryz.ntmps80
   go_wp2_with fail
   refine HC.out.mono ?_
   rintro e w1 ⟨rfl,hb1⟩
   rw [H.out]
   have hA1:=(hA.below hb1).more hb1.size
   go_wp2_with fail
   refine (HI.out _).mono ?_
   rintro e w2 ⟨rfl,rfl⟩
   rw [HR.out]
   go_wp2_with fail
   refine (HB.out _ hA1).mono ?_
   rintro e w3 ⟨v,rfl,o3,hb3⟩
   obtain ⟨G,g,rfl,-,-,hG⟩:=o3.form
   have hbx:=hb1.trans (hb3.mono hb1.size)
   rw [beginsTo_len]
   have HG:=Lib.hid hG
   clear hG o3 hb3 hb1 hA1 HC HI
   go_wp2_with fail
   go_loopw [5,7] (fun s i wr=>∃ k:Nat,k<=L.length∧i=.int .i64 k∧s=.int .i64 (waitS L cn k)∧Below w3.heap.size w3 wr) (fun _ i _=>L.length - (intOf i).toNat)
   case atStart=>exact ⟨0,by omega,rfl,rfl,Below.refl _ _⟩
   case round =>
    obtain ⟨k,hk,rfl,rfl,hb⟩:=hrel
    by_cases hlt:k < L.length
    ·obtain ⟨gb,go,rfl,hgb,hgc⟩:=HG.out (by rw [beginsTo_len];omega)
     obtain ⟨b,off,rfl,hlb,hc⟩:=hA (by omega)
     have c0:=(hb.cell (p:=⟨gb,go+k,none⟩) hgb).trans (hgc k (by rw [beginsTo_len];omega))
     rw [beginsTo_Z hlt] at c0
     have c1:=((hbx.trans (hb.mono hbx.size)).cell (p:=⟨b,off+k * 2,none⟩) hlb).trans (hc k hlt).1
     have tb:=Hb.out k hlt
     have cb:=Hc.out k hlt
     have wb:=Hw.out k hk
     have p1:(0:Int)<=(k:Int):=by omega
     have p2:(k:Int) < (L.length:Int):=by omega
     have q1:IntKind.i64.wrap (waitS L cn k+bgn L cn k)=waitS L cn k+bgn L cn k:=IntWalk.i64_in _ (by omega)
     have q2:IntKind.i64.wrap (waitS L cn k+bgn L cn k - X L k)=waitS L cn k+bgn L cn k - X L k:=IntWalk.i64_in _ (by omega)
     have HS:=Lib.hid (show waitS L cn (k+1)=waitS L cn k+bgn L cn k - X L k from rfl)
     clear hgc hc
     go_wp2_with fail
     go_quiet (fail)
     clear q1 q2 c0 c1
     have hbq:Below w3.heap.size w3 (wr.drewN nq):=by (repeat (first | exact hb | exact Below.refl _ _ | (with_reducible refine Below.drew ?_) | (with_reducible refine Below.drewN ?_ _) | (with_reducible refine Below.alloc ?_ ?_ _) | (with_reducible refine Below.setCell ?_ ?_ _) | (show _<=_;focus (first | omega | (simp;done) | (simp;omega)))))
     generalize wr.drewN nq=wq at hbq ⊢
     clear hb
     go_wp2_with fail
     go_roundw
     case rel=>exact ⟨k+1,by omega,by go_num,by rw [HS.out],hbq⟩
     case measure=>simp [intOf];omega
    ·have hlf:¬ ((k:Int) < (L.length:Int)):=by omega
     obtain rfl:k=L.length:=by omega
     go_wp2_with fail
     go_ret
     exact ⟨by rw [HV.out];rfl,hbx.trans (hb.mono hbx.size)⟩
  ·have HV:=Lib.hid (waitSumV_no (show besOk L c=false by simp [besOk];intro _ a;omega))
   have HR:=Lib.hid (decide_eq_false hr)
   clear hok hr
   go_enter Tryz.func80,Tryz.ntmps80
   go_wp2_with fail
   refine HC.out.mono ?_
   rintro e w1 ⟨rfl,hb1⟩
   rw [H.out]
   go_wp2_with fail
   refine (HI.out _).mono ?_
   rintro e w2 ⟨rfl,rfl⟩
   rw [HR.out]
   go_wp2_with fail
   go_ret
   exact ⟨by rw [HV.out];rfl,hb1⟩
 | false =>
  have HV:=Lib.hid (waitSumV_no (c:=c) (show besOk L c=false by simp [besOk,hok]))
  have H:=Lib.hid hok
  clear hok
  go_enter Tryz.func80,Tryz.ntmps80
  go_wp2_with fail
  refine HC.out.mono ?_
  rintro e w1 ⟨rfl,hb1⟩
  rw [H.out]
  go_wp2_with fail
  go_ret
  exact ⟨by rw [HV.out];rfl,hb1⟩
end
end Go.Proofs.YthpccmkagikhjaaGreatDoor

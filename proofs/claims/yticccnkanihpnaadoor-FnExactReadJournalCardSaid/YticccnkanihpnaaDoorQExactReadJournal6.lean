import Derived.Test.YticccnkanihpnaaDoorQExactReadJournal1
import Derived.Test.YticccnkanihpnaaDoorQExactReadJournal2
import Derived.Test.YticccnkanihpnaaDoorQExactReadJournal3
import Derived.Test.YticccnkanihpnaaDoorQExactReadJournal5
import Derived.RegionCalls
import Derived.Lib.SliceRun
namespace Go.Proofs.YticccnkanihpnaaDoor
set_option linter.unusedVariables false
open Go.RowKit
attribute [local go_sem ↓] Go.wp_at_zero Go.wp_at_succ
set_option maxHeartbeats 1000000 in
theorem c_eqDeed (k a b:Int) (w:World) :
  Calls Tryd.prog 23 #[.agg #[.int .i64 k,.int .i64 a,.int .i64 b],.agg #[.int .i64 k,.int .i64 a,.int .i64 b]] w fun e w'=>e=.returned (.bool true)∧Below w.heap.size w w':=by
 go_enter Tryd.func23,Tryd.ntmps23
 go_wp2
 go_ret
 exact ⟨rfl,by (repeat (first | exact rfl | exact Below.refl _ _ | (with_reducible refine Below.drew ?_) | (with_reducible refine Below.drewN ?_ _) | (with_reducible refine Below.alloc ?_ ?_ _) | (with_reducible refine Below.setCell ?_ ?_ _) | (show _<=_;focus (first | omega | (simp;done) | (simp;omega)))))⟩
end Go.Proofs.YticccnkanihpnaaDoor
namespace Go.Proofs.YticccnkanihpnaaDoor
set_option linter.unusedVariables false
open Go.RowKit
attribute [local go_sem ↓] Go.wp_at_zero Go.wp_at_succ
theorem EO.cells {w:World} {base g n c:Nat} {M:List DV} (h:EO w base (.slice (some ⟨g,0,none⟩) n c) M) :
  n=M.length∧(∀ k,k < n->w.cell? ⟨g,k * 3,none⟩=some (.int .i64 (ZD M k).k)∧w.cell? ⟨g,k * 3+1,none⟩=some (.int .i64 (ZD M k).a)∧w.cell? ⟨g,k * 3+2,none⟩=some (.int .i64 (ZD M k).b))∧∀ j,w.frozen? ⟨g,j,none⟩=false:=by
 have hn:n=M.length:=by
  rcases h.2 with ⟨h2,_⟩ | ⟨g',cap,cur,h2,_⟩
  ·cases h2
  ·injection h2
 subst hn
 refine ⟨rfl,fun k hk=>?_,fun j=>World.ownsRow.frozenAt h j⟩
 have:=flatD_at M k hk
 exact ⟨(World.ownsRow.cellAt h (k * 3) (by omega)).trans this.1,(World.ownsRow.cellAt h (k * 3+1) (by omega)).trans this.2.1,(World.ownsRow.cellAt h (k * 3+2) (by omega)).trans this.2.2⟩
theorem flatD_set (d:DV):∀ (L:List DV) (k:Nat),flatD (L.set k d)=(((flatD L).set (k * 3) (.int .i64 d.k)).set (k * 3+1) (.int .i64 d.a)).set (k * 3+2) (.int .i64 d.b)
 | [],k=>by simp [flatD]
 | c::L,0=>by simp [flatD]
 | c::L,k+1=>by
  have ih:=flatD_set d L k
  have e1:(k+1) * 3=k * 3+1+1+1:=by omega
  have e2:k * 3+1+1+1+2=k * 3+2+1+1+1:=by omega
  simp only [List.set_cons_succ,e1,e2]
  simp only [flatD,List.flatMap_cons,List.cons_append,List.nil_append,List.set_cons_succ] at ih ⊢
  rw [ih]
theorem EO.store {w:World} {base g n c:Nat} {M:List DV} (h:EO w base (.slice (some ⟨g,0,none⟩) n c) M) (k:Nat) (d:DV) :
  EO (((w.setCell ⟨g,k * 3,none⟩ (.int .i64 d.k)).setCell ⟨g,k * 3+1,none⟩ (.int .i64 d.a)).setCell ⟨g,k * 3+2,none⟩ (.int .i64 d.b)) base (.slice (some ⟨g,0,none⟩) n c) (M.set k d):=by
 have hn:=h.cells.1
 subst hn
 have h1:=(World.ownsRow.stored (g:=g) (cap:=c) h (k * 3) (.int .i64 d.k)).1
 have h2:=(World.ownsRow.stored (g:=g) (cap:=c) h1 (k * 3+1) (.int .i64 d.a)).1
 have h3:=(World.ownsRow.stored (g:=g) (cap:=c) h2 (k * 3+2) (.int .i64 d.b)).1
 unfold EO
 rw [flatD_set,List.length_set]
 exact h3
set_option maxHeartbeats 2000000 in
theorem c_eqDeedS (L:List DV) (A B:Option Addr) (c d:Nat) (w:World) (hA:Ds3 w w.heap.size A L) (hB:Ds3 w w.heap.size B L) (hn:L.length<=1048576) :
  Calls Tryd.prog 26 #[.slice A L.length c,.slice B L.length d] w fun e w'=>e=.returned (.bool true)∧Below w.heap.size w w':=by
 go_enter Tryd.func26,Tryd.ntmps26
 go_wp2_with fail
 go_loopw [5] (fun i wr=>∃ k:Nat,k<=L.length∧i=.int .i64 k∧Below w.heap.size w wr) (fun i _=>L.length - (intOf i).toNat)
 case atStart=>exact ⟨0,Nat.zero_le _,rfl,Below.refl _ _⟩
 case round =>
  obtain ⟨k,hk,rfl,hb⟩:=hrel
  have hsz:=hb.size
  by_cases hlt:k < L.length
  ·obtain ⟨b,off,rfl,hlb,hc⟩:=hA (by omega)
   obtain ⟨b2,off2,rfl,hlb2,hc2⟩:=hB (by omega)
   obtain ⟨p1,p2,p3⟩:=hc k hlt
   obtain ⟨q1,q2,q3⟩:=hc2 k hlt
   have c1:=WB.cell (B:=w.heap.size) (w:=wr) hlb ((hb.cell (p:=⟨b,off+k * 3,none⟩) hlb).trans p1)
   have c2:=WB.cell (B:=w.heap.size) (w:=wr) hlb ((hb.cell (p:=⟨b,off+k * 3+1,none⟩) hlb).trans p2)
   have c3:=WB.cell (B:=w.heap.size) (w:=wr) hlb ((hb.cell (p:=⟨b,off+k * 3+2,none⟩) hlb).trans p3)
   have c4:=WB.cell (B:=w.heap.size) (w:=wr) hlb2 ((hb.cell (p:=⟨b2,off2+k * 3,none⟩) hlb2).trans q1)
   have c5:=WB.cell (B:=w.heap.size) (w:=wr) hlb2 ((hb.cell (p:=⟨b2,off2+k * 3+1,none⟩) hlb2).trans q2)
   have c6:=WB.cell (B:=w.heap.size) (w:=wr) hlb2 ((hb.cell (p:=⟨b2,off2+k * 3+2,none⟩) hlb2).trans q3)
   have z1:(0:Int)<=(k:Int):=by omega
   have z2:(k:Int) < (L.length:Int):=by omega
   have HE:=Lib.hid (fun W=>c_eqDeed (ZD L k).k (ZD L k).a (ZD L k).b W)
   clear hc hc2 p1 p2 p3 q1 q2 q3
   go_wp2_with fail
   refine wp_region_wb w.heap.size (by kernel_rfl) (by kernel_rfl) ?_
   repeat (go_big_quiet_step ((go_at_call 23;exact Calls.inB hsz (HE.out _))))
   refine wpQuiet_nil ?_
   rintro w5 ⟨⟨_,hb5⟩,rfl⟩
   go_wp2_with fail
   go_roundw
   case rel=>exact ⟨k+1,by omega,by go_num,hb.trans hb5⟩
   case measure=>simp [intOf];omega
  ·go_wp2_with fail
   go_ret
   exact ⟨rfl,hb⟩
def marksE (n:Nat) (k:Int):List DV:=(List.range n).map fun (i:Nat)=>⟨k+3 * (i:Int),k+3 * (i:Int)+1,k+3 * (i:Int)+2⟩
theorem marksE_len (n:Nat) (k:Int):(marksE n k).length=n:=by simp [marksE]
theorem marksE_at {n i:Nat} {k:Int} (h:i < n):ZD (marksE n k) i=⟨k+3 * (i:Int),k+3 * (i:Int)+1,k+3 * (i:Int)+2⟩:=by simp [ZD,marksE,h]
def markETo (L:List DV) (k:Int) (i:Nat):List DV:=(marksE L.length k).take i++L.drop i
theorem markETo_all (L:List DV) (k:Int):markETo L k L.length=marksE L.length k:=by
 have h:=marksE_len L.length k
 simp [markETo,List.take_of_length_le (show (marksE L.length k).length<=L.length by omega)]
theorem markETo_succ {L:List DV} {k:Int} {i:Nat} (h:i < L.length):(markETo L k i).set i ⟨k+3 * (i:Int),k+3 * (i:Int)+1,k+3 * (i:Int)+2⟩=markETo L k (i+1):=by
 have hm:=marksE_len L.length k
 apply List.ext_getElem (by simp [markETo,hm];omega)
 intro j h1 h2
 simp only [markETo,List.length_set,List.length_append,List.length_take,List.length_drop,hm] at h1 h2
 rw [List.getElem_set]
 by_cases e:i=j
 ·subst e
  simp only [if_true,markETo]
  rw [List.getElem_append_left (by simp [hm];omega),List.getElem_take]
  simp [marksE]
 ·rw [if_neg e]
  simp only [markETo]
  by_cases hi:j < i
  ·rw [List.getElem_append_left (by simp [hm];omega),List.getElem_append_left (by simp [hm];omega),List.getElem_take,List.getElem_take]
  ·rw [List.getElem_append_right (by simp [hm];omega),List.getElem_append_right (by simp [hm];omega),List.getElem_drop,List.getElem_drop]
   congr 1
   simp [hm];omega
theorem grown_setE (w:World) (r o:Nat) (u:Value):w.grownBy (w.setCell ⟨r,o,none⟩ u) (some r) :=
 ⟨rfl,rfl,rfl,by simp [World.setCell],fun k _ hne=>Below.heap_setCell _ _ _ _ (fun e=>hne (by rw [e]))⟩
set_option maxHeartbeats 2000000 in
theorem c_heldDeedS (n:Nat) (k0:Int) (A:Option Addr) (c B:Nat) (w:World) (hA:Ds3 w B A (marksE n k0)) (hn:n<=1048576) (hk0:0<=k0) (hk1:k0<=1000000000) :
  Calls Tryd.prog 29 #[.slice A n c,.int .i64 k0] w fun e w'=>e=.returned (.int .i64 (k0+3 * n))∧w=w':=by
 go_enter Tryd.func29,Tryd.ntmps29
 go_wp2_with fail
 go_loop [1,5] (fun kk i=>∃ k:Nat,k<=n∧i=.int .i64 k∧kk=.int .i64 (k0+3 * (k:Int))) (fun _ i=>n - (intOf i).toNat)
 case atStart=>exact ⟨0,by omega,rfl,by simp⟩
 case round =>
  obtain ⟨k,hk,rfl,rfl⟩:=hrel
  by_cases hlt:k < n
  ·obtain ⟨b,off,rfl,hlb,hc⟩:=hA (by rw [marksE_len];omega)
   obtain ⟨c1,c2,c3⟩:=hc k (by rw [marksE_len];omega)
   rw [marksE_at hlt] at c1 c2 c3
   simp only at c1 c2 c3
   clear hc
   go_wp2_with fail
   go_round
   case rel=>exact ⟨k+1,by omega,by go_num,by go_num⟩
   case measure=>simp [intOf];omega
  ·go_wp2_with fail
   go_ret
   obtain rfl:k=n:=by omega
   exact ⟨rfl,rfl⟩
set_option maxHeartbeats 2000000 in
theorem c_markDeedS (L:List DV) (k0:Int) (v:Value) (base:Nat) (w:World) (hv:EO w base v L) (hn:L.length<=1048576) (hk0:0<=k0) (hk1:k0<=1000000000) :
  Calls Tryd.prog 28 #[v,.int .i64 k0] w fun e w'=>e=.returned (.int .i64 (k0+3 * L.length))∧EO w' base v (marksE L.length k0)∧w.grownBy w' v.ownBlock:=by
 rcases hv.2 with ⟨rfl,h0⟩ | ⟨g,cap,cur,rfl,-⟩
 ·have e:marksE L.length k0=[]:=by rw [h0];rfl
  rw [e,h0]
  go_enter Tryd.func28,Tryd.ntmps28
  go_wp2_with fail
  refine wp_loop_rounds 1 ?_
  rw [rounds_succ]
  go_wp2_with fail
  go_ret
  exact ⟨by simp,EO.nil _ _,World.grownBy.refl _ _⟩
 ·go_enter Tryd.func28,Tryd.ntmps28
  go_wp2_with fail
  go_loopw [1,5] (fun kk i wr=>∃ k:Nat,k<=L.length∧i=.int .i64 k∧kk=.int .i64 (k0+3 * (k:Int))∧EO wr base (.slice (some ⟨g,0,none⟩) L.length cap) (markETo L k0 k)∧w.grownBy wr (some g))
   (fun _ i _=>L.length - (intOf i).toNat)
  case atStart=>exact ⟨0,by omega,rfl,by simp,by simpa [markETo] using hv,World.grownBy.refl _ _⟩
  case round =>
   obtain ⟨k,hk,rfl,rfl,hown,hgr⟩:=hrel
   by_cases hlt:k < L.length
   ·obtain ⟨-,hcl,hfr⟩:=hown.cells
    obtain ⟨d1,d2,d3⟩:=hcl k hlt
    have f1:=hfr (k * 3)
    have f2:=hfr (k * 3+1)
    have f3:=hfr (k * 3+2)
    have HO:=Lib.hid (hown.store k ⟨k0+3 * (k:Int),k0+3 * (k:Int)+1,k0+3 * (k:Int)+2⟩)
    rw [markETo_succ hlt] at HO
    clear hcl hfr
    go_wp2_with fail
    go_roundw
    case rel=>exact ⟨k+1,by omega,by go_num,by go_num,by rw [show k0+3 * (k:Int)+1+1=k0+3 * (k:Int)+2 by omega];exact HO.out,((hgr.trans (grown_setE _ _ _ _)).trans (grown_setE _ _ _ _)).trans (grown_setE _ _ _ _)⟩
    case measure=>simp [intOf];omega
   ·go_wp2_with fail
    go_ret
    obtain rfl:k=L.length:=by omega
    rw [markETo_all] at hown
    exact ⟨rfl,hown,hgr⟩
end Go.Proofs.YticccnkanihpnaaDoor
namespace Go.Proofs.YticccnkanihpnaaDoor
set_option linter.unusedVariables false
open Go.RowKit
attribute [local go_sem ↓] Go.wp_at_zero Go.wp_at_succ
theorem len_jTo (L:List DV):L.length<=(jTo L).length:=by
 induction L with
 | nil=>simp
 | cons d L ih =>
  have e:jTo (d::L)=deedL d++[10]++jTo L:=by simp [jTo]
  rw [e];simp;omega
theorem jS_len (l:List UInt8):(jS l).ds.length<=l.length:=by
 have h:=jS_inv l
 have:=len_jTo (jS l).ds
 omega
theorem jS_cur (l:List UInt8) (h:(jS l).st=false):(jS l).cur=l.drop (jS l).n∧(jS l).n+(jS l).cur.length=l.length:=by
 have i:=jS_inv l
 have e:=(i.2.2.2.2 h).1
 have hl:=congrArg List.length e
 rw [List.length_append,i.2.1] at hl
 refine ⟨?_,hl⟩
 have:=congrArg (List.drop (jS l).n) e
 rw [List.drop_append_of_le_length (by omega),List.drop_eq_nil_of_le (by omega),List.nil_append] at this
 exact this
theorem jS_end {T:List UInt8} {k:Nat} (hk:k<=T.length) (h:(jS (T.take k)).st=true):jS T=jS (T.take k):=by
 have e:T=T.take k++T.drop k:=(List.take_append_drop _ _).symm
 rw [e,jS_append,List.take_append_drop,jStep_st h]
set_option maxRecDepth 8000 in
set_option maxHeartbeats 4000000 in
theorem c_sReadJournal (s:ByteArray) (hs:s.size<=100000000) (w:World) :
  Calls Tryd.prog 27 #[.string s] w fun e w'=>∃ v,e=.returned (.tuple #[v,.int .i64 ((jS s.data.toList).n:Int)])∧EO w' w.heap.size v (jS s.data.toList).ds∧Below w.heap.size w w':=by
 have hlen:s.data.toList.length=s.size:=Array.length_toList
 have hbz:Below w.heap.size w (w.alloc (.cells #[] 24)):=by (repeat (first | exact rfl | exact Below.refl _ _ | (with_reducible refine Below.drew ?_) | (with_reducible refine Below.drewN ?_ _) | (with_reducible refine Below.alloc ?_ ?_ _) | (with_reducible refine Below.setCell ?_ ?_ _) | (show _<=_;focus (first | omega | (simp;done) | (simp;omega)))))
 have HX:=Lib.hid (fun f k=>extract_bs s f k)
 have HT:=Lib.hid (fun k (hk:k < s.size)=>take_snocB s k hk)
 have HAll:=Lib.hid (show s.data.toList.take s.size=s.data.toList from List.take_of_length_le (by omega))
 have HC:=Lib.hid (fun k=>jS_cur (s.data.toList.take k))
 have HE:=Lib.hid (fun k (hk:k<=s.size)=>jS_end (T:=s.data.toList) (k:=k) (by omega))
 have HN:=Lib.hid (fun k=>jS_len (s.data.toList.take k))
 have HR:=Lib.hid (fun (x:List UInt8) (hx:x.length<=100000000) W=>c_sReadDeed x hx W)
 generalize s.data.toList=T at *
 go_enter Tryd.func27,Tryd.ntmps27
 go_wp2_with fail
 go_loopw [4,5,6] (fun v f i wr=>∃ (k:Nat),k<=s.size∧i=.int .i64 (k:Int)∧(jS (T.take k)).st=false∧f=.int .i64 ((jS (T.take k)).n:Int)∧EO wr w.heap.size v (jS (T.take k)).ds∧Below w.heap.size w wr) (fun _ _ i _=>s.size - (intOf i).toNat)
 case atStart=>exact ⟨0,by omega,rfl,rfl,rfl,EO.empty w (Nat.le_refl _),hbz⟩
 case round =>
  clear hbz
  obtain ⟨k,hk,rfl,hst,rfl,hown,hb⟩:=hrel
  have hsz:=hb.size
  have p1:(0:Int)<=(k:Int):=by omega
  have hcur:=HC.out k hst
  have hnl:=HN.out k
  rw [List.length_take] at hcur hnl
  by_cases hlt:k < s.size
  ·have p2:(k:Int) < (s.size:Int):=by omega
   have hmin:min k T.length=k:=by omega
   rw [hmin] at hcur hnl
   have HTk:=Lib.hid (HT.out k hlt)
   have hx:s.extract (jS (T.take k)).n k=bs (jS (T.take k)).cur:=by rw [hcur.1];exact HX.out _ _
   have hcl:(jS (T.take k)).cur.length<=100000000:=by omega
   have p3:(0:Int)<=((jS (T.take k)).n:Int):=by omega
   have p4:((jS (T.take k)).n:Int)<=(k:Int):=by omega
   have p5:(k:Int)<=(s.size:Int):=by omega
   by_cases hc:s[k]=10
   ·have d1:((s[k].toNat:Int) == 10)=true:=by rw [hc];rfl
    have HJ:=Lib.hid (show jS (T.take (k+1))=jStep (jS (T.take k)) 10 by rw [HTk.out,hc,jS_snoc])
    have HEk:=Lib.hid (HE.out (k+1) (by omega))
    have HRk:=Lib.hid (HR.out (jS (T.take k)).cur hcl)
    have HQ:=Lib.hid hcur.2
    clear hc hcur hcl
    generalize jS (T.take k)=J at *
    obtain ⟨st,ds,n,cur⟩:=J
    simp only at hst hown HJ HQ hx p3 p4 hnl HRk
    subst hst
    cases hrd:readD cur with
    | some d =>
     obtain ⟨dk,da,db⟩:=d
     rw [hrd] at HRk
     have HJ2:=Lib.hid (show jS (T.take (k+1))=⟨false,ds++[⟨dk,da,db⟩],k+1,[]⟩ by rw [HJ.out];simp [jStep,hrd];have:=HQ.out;omega)
     clear hrd HJ HEk
     go_wp2_with fail
     refine (HRk.out _).mono ?_
     rintro e w5 ⟨rfl,hb5⟩
     have hx5:=hb.trans (hb5.mono hsz)
     have own5:=hown.below hb5 (Nat.le_refl _)
     have hs5:=hb5.size
     have HD7:Hid (ds.length<=1000000000000):=Lib.hid (by omega)
     simp only [readV]
     have bn:=heap_alloc_new w5 (.cells #[.int .i64 dk,.int .i64 da,.int .i64 db] 24)
     have r0:=cell_of_row _ w5.heap.size 0 _ _ _ bn
     have r1:=cell_of_row _ w5.heap.size 1 _ _ _ bn
     have r2:=cell_of_row _ w5.heap.size 2 _ _ _ bn
     go_wp2_with (refine app_E ?_ (.tmp 32) (.tmp 34) ?_ w.heap.size u4 ds dk da db (w5.heap.size+1) ?_ ?_ ?_ ?_ ?_ ?_ ?_;rfl;rfl;rfl;exact ((own5.alloc _).alloc _);rfl;exact (by have h:=heap_alloc_new (w5.alloc (.cells #[.int .i64 dk,.int .i64 da,.int .i64 db] 24)) (.cells #[.int .i64 dk,.int .i64 da,.int .i64 db] 24);rw [World.size_alloc] at h;exact h);exact HD7.out;exact (by simp;omega);intro g7 cap w7 own7 hgr7 hb7)
     go_wp2_with fail
     go_roundw
     case rel=>exact ⟨k+1,by omega,by go_num,by rw [HJ2.out],by rw [HJ2.out];go_num,by rw [HJ2.out];simpa using own7,((hx5.alloc (by omega) _).alloc (by simp;omega) _).trans hb7⟩
     case measure=>simp [intOf];omega
    | none =>
     rw [hrd] at HRk
     have HJ2:=Lib.hid (show jS T=⟨true,ds,n,cur⟩ by
      have e:jS (T.take (k+1))=⟨true,ds,n,cur⟩:=by rw [HJ.out];simp [jStep,hrd]
      rw [HEk.out (by rw [e]),e])
     clear hrd HJ HEk
     go_wp2_with fail
     refine (HRk.out _).mono ?_
     rintro e w5 ⟨rfl,hb5⟩
     simp only [readV]
     have own5:=(hown.below hb5 (Nat.le_refl _)).alloc (.cells #[.int .i64 0,.int .i64 0,.int .i64 0] 24)
     go_wp2_with fail
     go_ret2
     exact ⟨_,by rw [HJ2.out];rfl,by rw [HJ2.out];exact own5,(hb.trans (hb5.mono hsz)).alloc (by have:=hb5.size;omega) _⟩
   ·have d1:((s[k].toNat:Int) == 10)=false:=beq_eq_false_iff_ne.2 (fun e=>hc (UInt8.toNat_inj.1 (by simpa using (by omega:s[k].toNat=10))))
    have HJ:=Lib.hid (show jS (T.take (k+1))=⟨false,(jS (T.take k)).ds,(jS (T.take k)).n,(jS (T.take k)).cur++[s[k]]⟩ by rw [HTk.out,jS_snoc];simp [jStep,hst,hc])
    clear hc hcur hcl hx
    go_wp2_with fail
    go_roundw
    case rel=>exact ⟨k+1,by omega,by go_num,by rw [HJ.out],by rw [HJ.out],by rw [HJ.out];exact hown,hb⟩
    case measure=>simp [intOf];omega
  ·have p2:¬ (k:Int) < (s.size:Int):=by omega
   obtain rfl:k=s.size:=by omega
   rw [HAll.out] at hown ⊢
   go_wp2_with fail
   go_ret2
   exact ⟨_,rfl,hown,hb⟩
end Go.Proofs.YticccnkanihpnaaDoor
namespace Go.Proofs.YticccnkanihpnaaDoor
set_option linter.unusedVariables false
open Go.RowKit
attribute [local go_sem ↓] Go.wp_at_zero Go.wp_at_succ
theorem c_cut10 (t:List UInt8) (ht:t.length<=100000000) (w:World) (hV:LV w w.heap.size) :
  Calls Tryd.prog 53 #[.string (bs t),.string ⟨#[10]⟩] w fun e w'=>e=.returned (.tuple #[.string (bs (Lib.cut t [10]).1),.string (bs (Lib.cut t [10]).2.1),.bool (Lib.cut t [10]).2.2])∧Below w.heap.size w w':=by
 obtain ⟨-,m,hm⟩:=hV.2.2
 refine (Tryd.strings_Cut (bs t) ⟨#[10]⟩ m w (by rw [bs_size];omega) hm).mono ?_
 rintro e w' ⟨he,n,hw⟩
 exact ⟨he,by rw [hw];exact Below.drewN (Below.refl _ w) n⟩
theorem drop_bs (l:List UInt8) (n:Nat):(bs l).extract n (bs l).size=bs (l.drop n):=by
 apply ByteArray.ext
 apply Array.ext'
 rw [Lib.extract_to_end]
 rfl
set_option maxRecDepth 8000 in
set_option maxHeartbeats 4000000 in
theorem c_iReadJournal (s:ByteArray) (hs:s.size<=100000000) (w:World) (hV:LV w w.heap.size) :
  Calls Tryd.prog 20 #[.string s] w fun e w'=>∃ v,e=.returned (.tuple #[v,.int .i64 ((jS s.data.toList).n:Int)])∧EO w' w.heap.size v (jS s.data.toList).ds∧Below w.heap.size w w':=by
 obtain ⟨l,rfl⟩:∃ l,s=bs l:=⟨s.data.toList,rfl⟩
 have hl:l.length<=100000000:=by rw [bs_size] at hs;exact hs
 show Calls Tryd.prog 20 #[.string (bs l)] w fun e w'=>∃ v,e=.returned (.tuple #[v,.int .i64 ((jS l).n:Int)])∧EO w' w.heap.size v (jS l).ds∧Below w.heap.size w w'
 have HSz:=Lib.hid (bs_size l)
 have HV:=Lib.hid hV
 have HCut:=Lib.hid (fun (n:Nat) (W:World) (hb:Below w.heap.size w W)=>c_cut10 (l.drop n) (by rw [List.length_drop];omega) W (hV.at hb))
 have HRd:=Lib.hid (fun (x:List UInt8) (hx:x.length<=100000000) (W:World) (hb:Below w.heap.size w W)=>c_iReadDeed x hx W (hV.at hb))
 clear hs hV
 go_enter Tryd.func20,Tryd.ntmps20
 go_wp2_with fail
 go_loopw [4,5] (fun v i wr=>∃ (n:Nat) (ds:List DV),n<=l.length∧i=.int .i64 (n:Int)∧Hid (jS (l.take n)=⟨false,ds,n,[]⟩)∧EO wr w.heap.size v ds∧ds.length<=n∧Below w.heap.size w wr) (fun _ i _=>l.length - (intOf i).toNat)
 case atStart=>exact ⟨0,[],by omega,rfl,rfl,EO.nil _ _,by simp,Below.refl _ _⟩
 case round =>
  obtain ⟨n,ds,hn,rfl,hj,own,hdn,hb⟩:=hrel
  have p1:(0:Int)<=(n:Int):=by omega
  have p2:(n:Int)<=((bs l).size:Int):=by rw [HSz.out];omega
  have p3:n<=(bs l).size:=by rw [HSz.out];omega
  have hx:=drop_bs l n
  have HC:=Lib.hid (HCut.out n wr hb)
  have hdl:(l.drop n).length=l.length - n:=List.length_drop
  rcases split_at 10 (l.drop n) with hno | ⟨a,b,hab,ha⟩
  ·have HT:=Lib.hid (cutC_none hno)
   have HE:=Lib.hid (jline_end hj.out hno)
   have HR:=Lib.hid (fun W hb=>HRd.out (l.drop n) (by omega) W hb)
   clear hno
   go_wp2_with fail
   refine HC.out.mono ?_
   rintro e w1 ⟨rfl,hb1⟩
   rw [HT.out]
   have hw1:=hb.trans (hb1.mono hb.size)
   have HO1:=Lib.hid (own.below hb1 (Nat.le_refl _))
   clear own hx hb1
   go_wp2_with fail
   refine (HR.out _ hw1).mono ?_
   rintro e w2 ⟨rfl,hb2⟩
   have hz1:=hw1.size
   obtain ⟨k,a,b,q,hrv⟩:∃ k a b q,readV (readD (l.drop n))=.tuple #[.agg #[.int .i64 k,.int .i64 a,.int .i64 b],.bool q]:=by
    cases readD (l.drop n) with
    | none=>exact ⟨_,_,_,_,rfl⟩
    | some d=>exact ⟨_,_,_,_,rfl⟩
   rw [hrv]
   clear hrv
   have hx3:Below w1.heap.size w1 (w2.alloc (.cells #[.int .i64 k,.int .i64 a,.int .i64 b] 24)):=hb2.alloc hb2.size _
   have HF:=Lib.hid (HO1.out.below hx3 (Nat.le_refl _))
   have HW:=Lib.hid (hw1.trans (hx3.mono hz1))
   clear hb2 hx3 hw1
   go_wp2_with fail
   go_ret2
   exact ⟨_,by rw [HE.out.2];rfl,by rw [HE.out.1];exact HF.out,HW.out⟩
  ·have HT:=Lib.hid (show Lib.cut (l.drop n) [10]=(a,b,true) by rw [hab];exact cutC_at b ha)
   have hla:n+a.length+1<=l.length:=by
    have h1:(l.drop n).length=a.length+1+b.length:=by rw [hab];simp;omega
    omega
   have HR:=Lib.hid (fun W hb=>HRd.out a (by omega) W hb)
   have HSa:=Lib.hid (bs_size a)
   cases hrd:readD a with
   | none =>
    have HE:=Lib.hid (jline_bad hj.out hab ha hrd)
    have HRv:=Lib.hid (show readV (readD a)=.tuple #[.agg #[.int .i64 0,.int .i64 0,.int .i64 0],.bool false] by rw [hrd];rfl)
    clear hab ha hrd hdl
    go_wp2_with fail
    refine HC.out.mono ?_
    rintro e w1 ⟨rfl,hb1⟩
    rw [HT.out]
    have hw1:=hb.trans (hb1.mono hb.size)
    have HO1:=Lib.hid (own.below hb1 (Nat.le_refl _))
    clear own hx hb1
    go_wp2_with fail
    refine (HR.out _ hw1).mono ?_
    rintro e w2 ⟨rfl,hb2⟩
    have hz1:=hw1.size
    rw [HRv.out]
    have hx3:Below w1.heap.size w1 (w2.alloc (.cells #[.int .i64 0,.int .i64 0,.int .i64 0] 24)):=hb2.alloc hb2.size _
    have HF:=Lib.hid (HO1.out.below hx3 (Nat.le_refl _))
    have HW:=Lib.hid (hw1.trans (hx3.mono hz1))
    clear hb2 hx3 hw1
    go_wp2_with fail
    go_ret2
    exact ⟨_,by rw [HE.out.2];rfl,by rw [HE.out.1];exact HF.out,HW.out⟩
   | some d =>
    obtain ⟨dk,da,db⟩:=d
    have HE:=Lib.hid (jline_ok hj.out hab ha hrd hn)
    have HRv:=Lib.hid (show readV (readD a)=.tuple #[.agg #[.int .i64 dk,.int .i64 da,.int .i64 db],.bool true] by rw [hrd];rfl)
    have q1:IntKind.i64.wrap (((bs a).size:Int)+1)=((bs a).size:Int)+1:=IntWalk.i64_in _ (by rw [HSa.out];omega)
    have q2:IntKind.i64.wrap ((n:Int)+(((bs a).size:Int)+1))=(n:Int)+(((bs a).size:Int)+1):=IntWalk.i64_in _ (by rw [HSa.out];omega)
    clear hab ha hrd hdl
    go_wp2_with fail
    refine HC.out.mono ?_
    rintro e w1 ⟨rfl,hb1⟩
    rw [HT.out]
    have hw1:=hb.trans (hb1.mono hb.size)
    have HO1:=Lib.hid (own.below hb1 (Nat.le_refl _))
    clear own hx hb1
    go_wp2_with fail
    refine (HR.out _ hw1).mono ?_
    rintro e w2 ⟨rfl,hb2⟩
    have hz1:=hw1.size
    have hz2:=hb2.size
    rw [HRv.out]
    have hx3:Below w1.heap.size w1 (w2.alloc (.cells #[.int .i64 dk,.int .i64 da,.int .i64 db] 24)):=hb2.alloc hb2.size _
    have HF:=Lib.hid (HO1.out.below hx3 (Nat.le_refl _))
    have HW:=Lib.hid (hw1.trans (hx3.mono hz1))
    have HL:=Lib.hid (show ds.length<=1000000000000 by omega)
    have hzw:w.heap.size<=w2.heap.size:=by omega
    clear hb2 hx3 hw1
    go_wp2_with (refine app_E (by rfl) (.tmp 32) (.tmp 34) (by rfl) w.heap.size u4 ds dk da db (w2.alloc (.cells #[.int .i64 dk,.int .i64 da,.int .i64 db] 24)).heap.size (by rfl) (HF.out.alloc _) ?_ ?_ HL.out ?_ ?_;(simp;rfl);exact (heap_alloc_new _ _);(simp;omega);intro g cap w6 o6 hgr6 hb6)
    have HW6:=Lib.hid (HW.out.trans ((((Below.refl _ (w2.alloc (.cells #[.int .i64 dk,.int .i64 da,.int .i64 db] 24))).alloc (show w.heap.size<=(w2.alloc (.cells #[.int .i64 dk,.int .i64 da,.int .i64 db] 24)).heap.size by simp;omega) _)).trans hb6))
    have HO6:=Lib.hid o6
    have HZ:=Lib.hid (show (n:Int)+(((bs a).size:Int)+1)=((n+a.length+1:Nat):Int) by rw [HSa.out];omega)
    clear o6 hgr6 hb6
    go_wp2_with fail
    go_roundw
    case rel=>exact ⟨n+a.length+1,ds++[⟨dk,da,db⟩],hla,by rw [HZ.out],HE,by simpa using HO6.out,by simp;omega,HW6.out⟩
    case measure=>(simp [intOf];rw [HSa.out];omega)
end Go.Proofs.YticccnkanihpnaaDoor
namespace Go.Proofs.YticccnkanihpnaaDoor
set_option linter.unusedVariables false
open Go.RowKit
attribute [local go_sem ↓] Go.wp_at_zero Go.wp_at_succ
set_option maxRecDepth 8000 in
set_option maxHeartbeats 4000000 in
theorem w_FnExactReadJournal (s:ByteArray) (w:World) (hV:LV w w.heap.size) :
  Calls Tryd.prog 9 #[.string s] w fun e w'=>e=.returned (.bool true)∧Below w.heap.size w w':=by
 have hlen:s.data.toList.length=s.size:=Array.length_toList
 by_cases hn:s.size<=1048576
 ·have hn':¬ (1048576:Int) < (s.size:Int):=by omega
  have HS:=Lib.hid (fun W=>c_sReadJournal s (by omega) W)
  have HVV:=Lib.hid hV
  have HI:=Lib.hid (fun W (hW:LV W W.heap.size)=>c_iReadJournal s (by omega) W hW)
  have hdl:(jS s.data.toList).ds.length<=1048576:=by have:=jS_len s.data.toList;omega
  generalize (jS s.data.toList).ds=ds at *
  generalize (jS s.data.toList).n=m at *
  have hne:((m:Int) != (m:Int))=false:=by simp
  have HD:=Lib.hid hdl
  have d2:decide ((1:Int)+3 * (ds.length:Int) < 0)=false:=decide_eq_false (by omega)
  have d3:((1:Int)+3 * (ds.length:Int) != 1+3 * (ds.length:Int))=false:=by simp
  clear hlen hdl hn
  go_enter Tryd.func9,Tryd.ntmps9
  go_wp2_with fail
  refine (HS.out _).mono ?_
  rintro e w1 ⟨v1,rfl,o1,hb1⟩
  obtain ⟨A1,c1,rfl,-,-,hE1⟩:=o1.form
  have hs1:=hb1.size
  have HE1:=Lib.hid hE1
  clear o1 hE1
  go_wp2_with fail
  refine (HI.out _ (HVV.out.at hb1)).mono ?_
  rintro e w2 ⟨v2,rfl,o2,hb2⟩
  obtain ⟨A2,c2,rfl,-,-,hE2⟩:=o2.form
  have hs2:=hb2.size
  have hx2:=hb1.trans (hb2.mono hs1)
  have HO2:=Lib.hid o2
  have HQ2:=Lib.hid (c_eqDeedS ds A2 A1 c2 c1 w2 hE2 ((HE1.out.below hb2).more hs2) HD.out)
  clear o2 hE2
  go_wp2_with fail
  refine HQ2.out.mono ?_
  rintro e w3 ⟨rfl,hb3⟩
  have hs3:=hb3.size
  have hx3:=hx2.trans (hb3.mono hx2.size)
  have o3:=HO2.out.below hb3 (Nat.le_refl _)
  have hob:=owns_base o3
  have HM:=Lib.hid (c_markDeedS ds 1 _ w1.heap.size w3 o3 HD.out (by omega) (by omega))
  clear o3
  go_wp2_with fail
  refine HM.out.mono ?_
  rintro e w4 ⟨rfl,o4,hg4⟩
  have hx4:Below w.heap.size w w4:=hx3.grown hg4 hx3.size (fun k e=>by have:=hob k e;omega)
  have hb14:Below w1.heap.size w1 w4:=(hb2.trans (hb3.mono hs2)).grown hg4 (by omega) (fun k e=>hob k e)
  have hE4:=o4.isOf.2
  have hs4:=hg4.size
  have HH4:=Lib.hid (c_heldDeedS ds.length 1 A2 c2 w4.heap.size w4 hE4 HD.out (by omega) (by omega))
  clear o4
  go_wp2_with fail
  refine HH4.out.mono ?_
  rintro e w' ⟨rfl,rfl⟩
  go_wp2_with fail
  refine (HI.out _ (HVV.out.at hx4)).mono ?_
  rintro e w5 ⟨v5,rfl,o5,hb5⟩
  obtain ⟨A5,c5,rfl,-,-,hE5⟩:=o5.form
  have hs5:=hb5.size
  have hx5:=hx4.trans (hb5.mono hx4.size)
  have HQ5:=Lib.hid (c_eqDeedS ds A5 A1 c5 c1 w5 hE5 ((HE1.out.below (hb14.trans (hb5.mono hb14.size))).more (hb14.trans (hb5.mono hb14.size)).size) HD.out)
  clear o5 hE5
  go_wp2_with fail
  refine HQ5.out.mono ?_
  rintro e w6 ⟨rfl,hb6⟩
  have hx6:=hx5.trans (hb6.mono hx5.size)
  have hb46:=hb5.trans (hb6.mono hs5)
  have HH6:=Lib.hid (c_heldDeedS ds.length 1 A2 c2 w4.heap.size w6 (hE4.below hb46) HD.out (by omega) (by omega))
  go_wp2_with fail
  refine HH6.out.mono ?_
  rintro e w' ⟨rfl,rfl⟩
  go_wp2_with fail
  go_ret
  exact ⟨rfl,hx6⟩
 ·have hn':(1048576:Int) < (s.size:Int):=by omega
  go_enter Tryd.func9,Tryd.ntmps9
  go_wp2_with fail
  go_ret
  exact ⟨rfl,Below.refl _ _⟩
end Go.Proofs.YticccnkanihpnaaDoor

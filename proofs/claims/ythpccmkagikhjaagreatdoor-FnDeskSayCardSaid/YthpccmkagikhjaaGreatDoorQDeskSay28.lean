import Derived.Test.YthpccmkagikhjaaGreatDoorQDeskSay2
import Derived.Test.YthpccmkagikhjaaGreatDoorQDeskSay7
import Derived.BigQuiet
import Derived.ProofKit
import Derived.OpenShut
namespace Go.Proofs.YthpccmkagikhjaaGreatDoor
set_option linter.unusedVariables false
open Go.RowKit
set_option maxRecDepth 8000
set_option maxHeartbeats 2000000
section
attribute [local go_sem ↓] Go.wp_at_zero Go.wp_at_succ
theorem c_sameTexts (L M:List (List UInt8)) (A B:Option Addr) (BA BB c d:Nat) (w:World) (hA:Ss w BA A L) (hB:Ss w BB B M) (hx:L.length<=140737488351232) (hy:M.length<=140737488351232) :
  Calls Tryz.prog 27 #[.slice A L.length c,.slice B M.length d] w fun e w'=>e=.returned (.bool (decide (L=M)))∧Below w.heap.size w w':=by
 go_enter Tryz.func27,Tryz.ntmps27
 by_cases hl:L.length=M.length
 ·have hd:((L.length:Int) != (M.length:Int))=false:=by simp [hl]
  have HL:=Lib.hid hl
  clear hl
  go_wp2_with fail
  go_loopw [5] (fun i wr=>∃ k n:Nat,k<=L.length∧i=.int .i64 k∧wr=w.drewN n∧Hid (∀ i,i < k->ZS L i=ZS M i)) (fun i _=>L.length - (intOf i).toNat)
  case atStart=>exact ⟨0,0,Nat.zero_le _,rfl,rfl,Lib.hid fun i h=>by omega⟩
  case round =>
   obtain ⟨k,n,hk,rfl,rfl,HE⟩:=hrel
   by_cases hlt:k < L.length
   ·have hlm:k < M.length:=by have:=HL.out;omega
    obtain ⟨b,off,rfl,hlb,hc⟩:=hA (by omega)
    obtain ⟨b2,off2,rfl,hlb2,hc2⟩:=hB (by omega)
    have c1:=hc k hlt
    have c2:=hc2 k hlm
    (try simp only [sv] at c1 c2)
    have hNE:¬ ZS L k=ZS M k->¬ L=M:=fun h e=>h (by rw [e])
    clear hc hc2
    obtain ⟨x,hxx⟩:∃ x,ZS L k=x:=⟨_,rfl⟩
    obtain ⟨y,hyy⟩:∃ y,ZS M k=y:=⟨_,rfl⟩
    rw [hxx] at c1 hNE
    rw [hyy] at c2 hNE
    have HXY:=Lib.hid (And.intro hxx hyy)
    clear hxx hyy
    by_cases e1:x=y
    ·subst e1
     have f1:((bs x).toList == (bs x).toList)=true:=by simp
     have f2:((bs x).toList != (bs x).toList)=false:=by simp
     have HE2:Hid (∀ i,i < k+1->ZS L i=ZS M i):=Lib.hid fun i hi=>by
      by_cases e:i=k
      ·subst e;rw [HXY.out.1,HXY.out.2]
      ·exact HE.out i (by omega)
     clear hNE
     go_wp2_with fail
     go_quiet (fail)
     go_wp2_with fail
     go_roundw
     case rel=>exact ⟨k+1,_,by omega,by go_num,rfl,HE2⟩
     case measure=>simp [intOf];omega
    ·have f3:((bs x).toList == (bs y).toList)=false:=by rw [bs_list,bs_list];simpa using e1
     have f2:((bs x).toList != (bs y).toList)=true:=by rw [bs_list,bs_list];simpa using e1
     have HN:=Lib.hid (hNE e1)
     clear e1 hNE
     go_wp2_with fail
     go_quiet (fail)
     go_wp2_with fail
     go_ret
     exact ⟨by rw [decide_eq_false HN.out];rfl,by (repeat (first | exact rfl | exact Below.refl _ _ | (with_reducible refine Below.drew ?_) | (with_reducible refine Below.drewN ?_ _) | (with_reducible refine Below.alloc ?_ ?_ _) | (with_reducible refine Below.setCell ?_ ?_ _) | (show _<=_;focus (first | omega | (simp;done) | (simp;omega)))))⟩
   ·go_wp2_with fail
    go_ret
    have hLM:L=M:=by
     refine List.ext_getElem HL.out fun i h1 h2=>?_
     have:=HE.out i (by omega)
     have e1:ZS L i=L[i]:=by simp [ZS,h1]
     have e2:ZS M i=M[i]:=by simp [ZS,h2]
     rwa [e1,e2] at this
    exact ⟨by rw [decide_eq_true hLM];rfl,by (repeat (first | exact rfl | exact Below.refl _ _ | (with_reducible refine Below.drew ?_) | (with_reducible refine Below.drewN ?_ _) | (with_reducible refine Below.alloc ?_ ?_ _) | (with_reducible refine Below.setCell ?_ ?_ _) | (show _<=_;focus (first | omega | (simp;done) | (simp;omega)))))⟩
 ·have hd:((L.length:Int) != (M.length:Int))=true:=by simpa using fun h:(L.length:Int)=M.length=>hl (by omega)
  have HL:=Lib.hid hl
  clear hl
  go_wp2_with fail
  go_ret
  exact ⟨by rw [decide_eq_false (show ¬ L=M from fun h=>HL.out (by rw [h]))];rfl,by (repeat (first | exact rfl | exact Below.refl _ _ | (with_reducible refine Below.drew ?_) | (with_reducible refine Below.drewN ?_ _) | (with_reducible refine Below.alloc ?_ ?_ _) | (with_reducible refine Below.setCell ?_ ?_ _) | (show _<=_;focus (first | omega | (simp;done) | (simp;omega)))))⟩
end
section
open Go.RowKit Go.ChangeShapes Go.WideShapes Go.ChangeAt
def IsRow (k:IntKind) (w:World) (a:Option Addr) (len cap:Nat) (zs:List Int):Prop :=
 (a=none∧len=0∧cap=0∧zs=[]) ∨
 ∃ x,a=some x∧len<=cap∧cap<=maxLen∧zs.length=cap∧(∀ i,i < zs.length->w.cell? (x.add i)=some (.int k (zs.getD i 0)))∧∀ n ∈ zs,(Lit.int k n).wf=true
theorem IsRow.bs {w:World} {a:Option Addr} {len cap:Nat} {zs:List Int} (h:IsRow .u8 w a len cap zs):Bs w w.heap.size a len∧len<=cap:=by
 rcases h with ⟨rfl,rfl,rfl,rfl⟩ | ⟨x,rfl,hl,hm,hz,hcell,hwz⟩
 ·exact ⟨fun h=>by omega,Nat.le_refl _⟩
 ·refine ⟨fun h0=>?_,hl⟩
  obtain ⟨b,off,spot⟩:=x
  have hc:=hcell 0 (by omega)
  have hspot:spot=none:=by simpa [Addr.add] using World.cell?_spot hc
  subst hspot
  refine ⟨b,off,rfl,?_,fun k hk=>?_⟩
  ·exact World.block_lt_of_cell? w ⟨b,off,none⟩ (by simpa [Addr.add] using hc)
  ·have h1:=hcell k (by omega)
   have e:zs.getD k 0=zs[k]'(by omega):=by simp [List.getD,List.getElem?_eq_getElem (show k < zs.length by omega)]
   have hm:zs.getD k 0 ∈ zs:=by rw [e];exact List.getElem_mem _
   have h2:=bounds_u8 (hwz _ hm)
   refine ⟨zs.getD k 0,?_,h2.1,h2.2⟩
   rw [<- h1]
   by_cases e:k=0
   ·subst e;simp [Addr.add]
   ·simp [Addr.add,e]
end
end Go.Proofs.YthpccmkagikhjaaGreatDoor

import Derived.Test.YthpccmkagikhjaaGreatDoorQExactDeskLine1
import Derived.Test.YthpccmkagikhjaaGreatDoorQExactDeskLine2
import Derived.Deep.Upon
import Derived.OwnWalk
namespace Go.Proofs.YthpccmkagikhjaaGreatDoor
set_option linter.unusedVariables false
open Go.RowKit
set_option maxHeartbeats 2000000
section
attribute [local go_sem ↓] Go.wp_at_zero Go.wp_at_succ
theorem c_sz_yes (A:Option Addr) (n c:Nat) (l:Int) (w:World) (h:(n:Int)<=l) (hl:l<=1048576) (hn:n<=9223372036854775807) :
  Calls Tryz.prog 83 #[.slice A n c,.int .i64 l] w fun e w'=>e=.returned (.int .i64 (l - n))∧w=w':=by
 go_enter Tryz.func83,Tryz.ntmps83
 go_wp2
 go_ret
 exact ⟨rfl,rfl⟩
theorem c_sz_no (A:Option Addr) (n c:Nat) (l:Int) (w:World) (h:l < (n:Int)) (h0:0<=l) (hl:l<=1048576) (hn:n<=9223372036854775807) :
  Calls Tryz.prog 83 #[.slice A n c,.int .i64 l] w fun e w'=>e=.returned (.int .i64 (-1))∧w=w':=by
 go_enter Tryz.func83,Tryz.ntmps83
 go_wp2
 go_ret
 exact ⟨rfl,rfl⟩
theorem c_toCustomer (x y:Int) (w:World) :
  Calls Tryz.prog 126 #[.agg #[.int .i64 x,.int .i64 y]] w fun e w'=>e=.returned (.agg #[.int .i64 x,.int .i64 y])∧Below w.heap.size w w':=by
 go_enter Tryz.func126,Tryz.ntmps126
 go_wp2
 exact bodyPost_ret (v:=.agg #[.int .i64 x,.int .i64 y]) (by simp [results,Tryz.results126,go_sem]) rfl ⟨rfl,by (repeat (first | exact rfl | exact Below.refl _ _ | (with_reducible refine Below.drew ?_) | (with_reducible refine Below.drewN ?_ _) | (with_reducible refine Below.alloc ?_ ?_ _) | (with_reducible refine Below.setCell ?_ ?_ _) | (show _<=_;focus (first | omega | (simp;done) | (simp;omega)))))⟩
def fillTo (L:List (Int×Int)) (k:Nat):List (Int×Int):=L.take k++List.replicate (L.length - k) (0,0)
theorem fillTo_len {L:List (Int×Int)} {k:Nat} (h:k<=L.length):(fillTo L k).length=L.length:=by simp [fillTo];omega
theorem fillTo_all (L:List (Int×Int)):fillTo L L.length=L:=by simp [fillTo]
theorem fillTo_succ {L:List (Int×Int)} {k:Nat} (h:k < L.length):(fillTo L k).set k (X L k,Y L k)=fillTo L (k+1):=by
 apply List.ext_getElem (by simp [fillTo];omega)
 intro i h1 h2
 simp only [fillTo,List.length_set,List.length_append,List.length_take,List.length_replicate] at h1 h2
 rw [List.getElem_set]
 by_cases e:k=i
 ·subst e
  simp only [if_true,fillTo]
  rw [List.getElem_append_left (by simp;omega),List.getElem_take,XY_eta L k h]
 ·rw [if_neg e]
  simp only [fillTo]
  by_cases hi:i < k
  ·rw [List.getElem_append_left (by simp;omega),List.getElem_append_left (by simp;omega),List.getElem_take,List.getElem_take]
  ·rw [List.getElem_append_right (by simp;omega),List.getElem_append_right (by simp;omega),List.getElem_replicate,List.getElem_replicate]
theorem flatC_set (x y:Int):∀ (L:List (Int×Int)) (k:Nat),flatC (L.set k (x,y))=((flatC L).set (k * 2) (.int .i64 x)).set (k * 2+1) (.int .i64 y)
 | [],k=>by simp [flatC]
 | c::L,0=>by simp [flatC]
 | c::L,k+1=>by
  have ih:=flatC_set x y L k
  have e1:(k+1) * 2=k * 2+1+1:=by omega
  simp only [List.set_cons_succ,e1]
  simp only [flatC,List.flatMap_cons,List.cons_append,List.nil_append,List.set_cons_succ] at ih ⊢
  rw [ih]
theorem CO.store {w:World} {base g n c:Nat} {M:List (Int×Int)} (h:CO w base (.slice (some ⟨g,0,none⟩) n c) M) (k:Nat) (x y:Int) :
  CO ((w.setCell ⟨g,k * 2,none⟩ (.int .i64 x)).setCell ⟨g,k * 2+1,none⟩ (.int .i64 y)) base (.slice (some ⟨g,0,none⟩) n c) (M.set k (x,y)):=by
 have hn:n=M.length:=by
  rcases h.2 with ⟨h2,_⟩ | ⟨g',cap,cur,h2,_⟩
  ·cases h2
  ·injection h2
 subst hn
 have h1:=(World.ownsRow.stored (g:=g) (cap:=c) h (k * 2) (.int .i64 x)).1
 have h2:=(World.ownsRow.stored (g:=g) (cap:=c) h1 (k * 2+1) (.int .i64 y)).1
 unfold CO
 rw [flatC_set,List.length_set]
 exact h2
theorem madeAt (z:Array Value) (n j:Nat) (h:j < n):(madeCells z n).toList[j]?=some (z[j % z.size]!):=by
 simp [madeCells,h]
theorem flatC_zeros (n:Nat):(madeCells (Value.agg #[.int .i64 0,.int .i64 0]).cells (n * 2)).toList=flatC (List.replicate n (0,0)):=by
 have hz:(Value.agg #[.int .i64 0,.int .i64 0]).cells=#[.int .i64 0,.int .i64 0]:=rfl
 have hl:(flatC (List.replicate n (0,0))).length=n * 2:=by rw [flatC_len];simp
 apply List.ext_getElem?
 intro j
 by_cases h:j < n * 2
 ·rw [hz,madeAt _ _ _ h]
  have h2:=flatC_at (List.replicate n (0,0)) (j / 2) (by simp;omega)
  have e1:X (List.replicate n (0,0)) (j / 2)=0:=by simp [X,show j / 2 < n by omega]
  have e2:Y (List.replicate n (0,0)) (j / 2)=0:=by simp [Y,show j / 2 < n by omega]
  rw [e1,e2] at h2
  rcases Nat.mod_two_eq_zero_or_one j with h3 | h3
  ·have e3:j / 2 * 2=j:=by omega
   rw [e3] at h2
   rw [h2.1];simp [h3]
  ·have e3:j / 2 * 2+1=j:=by omega
   rw [e3] at h2
   rw [h2.2];simp [h3]
 ·rw [List.getElem?_eq_none (by simp [madeCells];omega),List.getElem?_eq_none (by omega)]
theorem c_toCustomerS (L:List (Int×Int)) (A:Option Addr) (c:Nat) (w:World) (hA:Cs w w.heap.size A L) (hn:L.length<=1048576) :
  Calls Tryz.prog 85 #[.slice A L.length c] w fun e w'=>∃ v,e=.returned v∧CO w' w.heap.size v L∧Below w.heap.size w w':=by
 obtain ⟨i0,hi,hz0,hz1,hz2⟩:=info_parts infoC
 go_enter Tryz.func85,Tryz.ntmps85
 go_wp2_with (at_make;refine wpList_make_full w rfl _ _ _ rfl w.heap.size 100 i0 _ 2 Tryz.underlying28 hi hz0 hz1 .i64 .i64 _ _ L.length rfl rfl rfl rfl (by rw [hz2];omega) (by simp only [maxLen];omega) (Nat.le_refl _) ?_;intro w1 hown1 hgr1)
 have hb1:Below w.heap.size w w1:=(Below.refl _ _).grown hgr1 (Nat.le_refl _) (by simp)
 have o1:CO w1 w.heap.size (.slice (some ⟨w.heap.size,0,none⟩) L.length L.length) (fillTo L 0):=by
  unfold CO
  rw [fillTo_len (by omega),show fillTo L 0=List.replicate L.length (0,0) by simp [fillTo],<- flatC_zeros]
  exact hown1
 clear hown1 hgr1
 go_loopw [4] (fun i wr=>∃ k:Nat,k<=L.length∧i=.int .i64 k∧CO wr w.heap.size (.slice (some ⟨w.heap.size,0,none⟩) L.length L.length) (fillTo L k)∧Below w.heap.size w wr)
  (fun i _=>L.length - (intOf i).toNat)
 case atStart=>exact ⟨0,by omega,rfl,o1,hb1⟩
 case round =>
  obtain ⟨k,hk,rfl,hown,hb⟩:=hrel
  by_cases hlt:k < L.length
  ·obtain ⟨b,off,rfl,hlb,hc⟩:=hA (by omega)
   have c1:=(hb.cell (p:=⟨b,off+k * 2,none⟩) hlb).trans (hc k hlt).1
   have c2:=(hb.cell (p:=⟨b,off+k * 2+1,none⟩) hlb).trans (hc k hlt).2
   clear hc
   have hsz:=hb.size
   clear hb1 hA o1
   go_wp2_with fail
   refine (c_toCustomer _ _ _).mono ?_
   rintro e w5 ⟨rfl,hb5⟩
   have o5:=hown.below hb5 (Nat.le_refl _)
   have hb7:=hb.trans (hb5.mono hsz)
   obtain ⟨-,hcl,hfr⟩:=o5.cells
   obtain ⟨d1,d2⟩:=hcl k hlt
   have f1:=hfr (k * 2)
   have f2:=hfr (k * 2+1)
   clear hcl hfr
   go_wp2_with fail
   go_roundw
   case rel =>
    refine ⟨k+1,by omega,by go_num,?_,by (repeat (first | exact hb7 | exact Below.refl _ _ | (with_reducible refine Below.drew ?_) | (with_reducible refine Below.drewN ?_ _) | (with_reducible refine Below.alloc ?_ ?_ _) | (with_reducible refine Below.setCell ?_ ?_ _) | (show _<=_;focus (first | omega | (simp;done) | (simp;omega)))))⟩
    rw [<- fillTo_succ hlt]
    exact o5.store k _ _
   case measure=>simp [intOf];omega
  ·go_wp2_with fail
   go_ret
   obtain rfl:k=L.length:=by omega
   rw [fillTo_all] at hown
   exact ⟨_,rfl,hown,hb⟩
theorem c_eqCustomer (x y:Int) (w:World) :
  Calls Tryz.prog 127 #[.agg #[.int .i64 x,.int .i64 y],.agg #[.int .i64 x,.int .i64 y]] w fun e w'=>e=.returned (.bool true)∧Below w.heap.size w w':=by
 go_enter Tryz.func127,Tryz.ntmps127
 go_wp2
 go_ret
 exact ⟨rfl,by (repeat (first | exact rfl | exact Below.refl _ _ | (with_reducible refine Below.drew ?_) | (with_reducible refine Below.drewN ?_ _) | (with_reducible refine Below.alloc ?_ ?_ _) | (with_reducible refine Below.setCell ?_ ?_ _) | (show _<=_;focus (first | omega | (simp;done) | (simp;omega)))))⟩
theorem c_eqCustomerS (L:List (Int×Int)) (A B:Option Addr) (c d:Nat) (w:World) (hA:Cs w w.heap.size A L) (hB:Cs w w.heap.size B L) (hn:L.length<=1048576) :
  Calls Tryz.prog 87 #[.slice A L.length c,.slice B L.length d] w fun e w'=>e=.returned (.bool true)∧Below w.heap.size w w':=by
 go_enter Tryz.func87,Tryz.ntmps87
 go_wp2_with fail
 go_loopw [5] (fun i wr=>∃ k:Nat,k<=L.length∧i=.int .i64 k∧Below w.heap.size w wr) (fun i _=>L.length - (intOf i).toNat)
 case atStart=>exact ⟨0,Nat.zero_le _,rfl,Below.refl _ _⟩
 case round =>
  obtain ⟨k,hk,rfl,hb⟩:=hrel
  by_cases hlt:k < L.length
  ·obtain ⟨b,off,rfl,hlb,hc⟩:=hA (by omega)
   obtain ⟨b2,off2,rfl,hlb2,hc2⟩:=hB (by omega)
   have c1:=(hb.cell (p:=⟨b,off+k * 2,none⟩) hlb).trans (hc k hlt).1
   have c2:=(hb.cell (p:=⟨b,off+k * 2+1,none⟩) hlb).trans (hc k hlt).2
   have c3:=(hb.cell (p:=⟨b2,off2+k * 2,none⟩) hlb2).trans (hc2 k hlt).1
   have c4:=(hb.cell (p:=⟨b2,off2+k * 2+1,none⟩) hlb2).trans (hc2 k hlt).2
   clear hc hc2 hA hB
   have hsz:=hb.size
   have hlw:b < wr.heap.size:=by omega
   have hlw2:b2 < wr.heap.size:=by omega
   go_wp2_with fail
   go_region_held3 (fun w'=>w'.cell? ⟨b,off+k * 2,none⟩=some (.int .i64 (X L k))∧w'.cell? ⟨b,off+k * 2+1,none⟩=some (.int .i64 (Y L k))∧w'.cell? ⟨b2,off2+k * 2,none⟩=some (.int .i64 (X L k))∧w'.cell? ⟨b2,off2+k * 2+1,none⟩=some (.int .i64 (Y L k)))
    (first
      | go_keep
      | exact ⟨(hb5.cell (p:=⟨b,_,none⟩) hlw).trans c1,(hb5.cell (p:=⟨b,_,none⟩) hlw).trans c2,(hb5.cell (p:=⟨b2,_,none⟩) hlw2).trans c3,(hb5.cell (p:=⟨b2,_,none⟩) hlw2).trans c4⟩)
    ((go_at_call 127;refine (c_eqCustomer _ _ _).mono ?_;rintro e w5 ⟨rfl,hb5⟩))
   go_wp2_with fail
   go_roundw
   case rel=>exact ⟨k+1,by omega,by go_num,hb.drew.trans (hb5.mono hsz)⟩
   case measure=>simp [intOf];omega
  ·go_wp2_with fail
   go_ret
   exact ⟨rfl,hb⟩
def marks (n:Nat) (k:Int):List (Int×Int):=(List.range n).map fun (i:Nat)=>(k+2 * (i:Int),k+2 * (i:Int)+1)
theorem marks_len (n:Nat) (k:Int):(marks n k).length=n:=by simp [marks]
theorem marks_X {n i:Nat} {k:Int} (h:i < n):X (marks n k) i=k+2 * i:=by simp [X,marks,h]
theorem marks_Y {n i:Nat} {k:Int} (h:i < n):Y (marks n k) i=k+2 * i+1:=by simp [Y,marks,h]
def markTo (L:List (Int×Int)) (k:Int) (i:Nat):List (Int×Int):=(marks L.length k).take i++L.drop i
theorem markTo_all (L:List (Int×Int)) (k:Int):markTo L k L.length=marks L.length k:=by
 have h:=marks_len L.length k
 simp [markTo,List.take_of_length_le (show (marks L.length k).length<=L.length by omega)]
theorem markTo_succ {L:List (Int×Int)} {k:Int} {i:Nat} (h:i < L.length):(markTo L k i).set i (k+2 * (i:Int),k+2 * (i:Int)+1)=markTo L k (i+1):=by
 have hm:=marks_len L.length k
 apply List.ext_getElem (by simp [markTo,hm];omega)
 intro j h1 h2
 simp only [markTo,List.length_set,List.length_append,List.length_take,List.length_drop,hm] at h1 h2
 rw [List.getElem_set]
 by_cases e:i=j
 ·subst e
  simp only [if_true,markTo]
  rw [List.getElem_append_left (by simp [hm];omega),List.getElem_take]
  simp [marks]
 ·rw [if_neg e]
  simp only [markTo]
  by_cases hi:j < i
  ·rw [List.getElem_append_left (by simp [hm];omega),List.getElem_append_left (by simp [hm];omega),List.getElem_take,List.getElem_take]
  ·rw [List.getElem_append_right (by simp [hm];omega),List.getElem_append_right (by simp [hm];omega),List.getElem_drop,List.getElem_drop]
   congr 1
   simp [hm];omega
theorem c_heldCustomerS (n:Nat) (k0:Int) (A:Option Addr) (c B:Nat) (w:World) (hA:Cs w B A (marks n k0)) (hn:n<=1048576) (hk0:0<=k0) (hk1:k0<=1000000000) :
  Calls Tryz.prog 91 #[.slice A n c,.int .i64 k0] w fun e w'=>e=.returned (.int .i64 (k0+2 * n))∧w=w':=by
 go_enter Tryz.func91,Tryz.ntmps91
 go_wp2_with fail
 go_loop [1,5] (fun kk i=>∃ k:Nat,k<=n∧i=.int .i64 k∧kk=.int .i64 (k0+2 * (k:Int))) (fun _ i=>n - (intOf i).toNat)
 case atStart=>exact ⟨0,by omega,rfl,by simp⟩
 case round =>
  obtain ⟨k,hk,rfl,rfl⟩:=hrel
  by_cases hlt:k < n
  ·obtain ⟨b,off,rfl,hlb,hc⟩:=hA (by rw [marks_len];omega)
   obtain ⟨c1,c2⟩:=hc k (by rw [marks_len];omega)
   rw [marks_X hlt] at c1
   rw [marks_Y hlt] at c2
   clear hc
   go_wp2_with fail
   go_round
   case rel=>exact ⟨k+1,by omega,by go_num,by go_num⟩
   case measure=>simp [intOf];omega
  ·go_wp2_with fail
   go_ret
   obtain rfl:k=n:=by omega
   exact ⟨rfl,rfl⟩
theorem c_markCustomerS (L:List (Int×Int)) (k0:Int) (v:Value) (base:Nat) (w:World) (hv:CO w base v L) (hn:L.length<=1048576) (hk0:0<=k0) (hk1:k0<=1000000000) :
  Calls Tryz.prog 89 #[v,.int .i64 k0] w fun e w'=>e=.returned (.int .i64 (k0+2 * L.length))∧CO w' base v (marks L.length k0)∧w.grownBy w' v.ownBlock:=by
 rcases hv.2 with ⟨rfl,h0⟩ | ⟨g,cap,cur,rfl,-⟩
 ·have e:marks L.length k0=[]:=by rw [h0];rfl
  rw [e,h0]
  go_enter Tryz.func89,Tryz.ntmps89
  go_wp2_with fail
  refine wp_loop_rounds 1 ?_
  rw [rounds_succ]
  go_wp2_with fail
  go_ret
  exact ⟨by simp,CO.nil _ _,World.grownBy.refl _ _⟩
 ·go_enter Tryz.func89,Tryz.ntmps89
  go_wp2_with fail
  go_loopw [1,5] (fun kk i wr=>∃ k:Nat,k<=L.length∧i=.int .i64 k∧kk=.int .i64 (k0+2 * (k:Int))∧CO wr base (.slice (some ⟨g,0,none⟩) L.length cap) (markTo L k0 k)∧w.grownBy wr (some g))
   (fun _ i _=>L.length - (intOf i).toNat)
  case atStart=>exact ⟨0,by omega,rfl,by simp,by simpa [markTo] using hv,World.grownBy.refl _ _⟩
  case round =>
   obtain ⟨k,hk,rfl,rfl,hown,hgr⟩:=hrel
   by_cases hlt:k < L.length
   ·obtain ⟨-,hcl,hfr⟩:=hown.cells
    obtain ⟨d1,d2⟩:=hcl k hlt
    have f1:=hfr (k * 2)
    have f2:=hfr (k * 2+1)
    clear hcl hfr
    go_wp2_with fail
    go_roundw
    case rel =>
     refine ⟨k+1,by omega,by go_num,by go_num,?_,?_⟩
     ·rw [<- markTo_succ hlt]
      exact hown.store k _ _
     ·exact (hgr.trans (grown_set _ _ _ _)).trans (grown_set _ _ _ _)
    case measure=>simp [intOf];omega
   ·go_wp2_with fail
    go_ret
    obtain rfl:k=L.length:=by omega
    rw [markTo_all] at hown
    exact ⟨rfl,hown,hgr⟩
end
section
theorem owns_kept {w w':World} {base:Nat} {e:TypeId} {size:Nat} {v:Value} {n:Nat} {xs:List Value} {row:Option Nat} (h:w.ownsRow base e size v n xs) (hg:w.grownBy w' row) (hr:∀ r,v.ownBlock=some r->row≠some r):w'.ownsRow base e size v n xs:=by
 have hl:=owns_lt h
 refine ⟨h.1,?_⟩
 rcases h.2 with h2 | ⟨g,cap,cur,rfl,hgb,hh,rest⟩
 ·exact .inl h2
 ·have:=hl g (by simp [Value.ownBlock])
  exact .inr ⟨g,cap,cur,rfl,hgb,by rw [hg.block g (by omega) (fun e=>hr g (by simp [Value.ownBlock]) e.symm)];exact hh,rest⟩
theorem CO.grownR' {w w':World} {base:Nat} {row:Option Nat} {v:Value} {L:List (Int×Int)} (h:CO w base v L) (hg:w.grownBy w' row) (hr:∀ r,v.ownBlock=some r->row≠some r):CO w' base v L:=by
 have hl:=owns_lt h
 refine ⟨h.1,?_⟩
 rcases h.2 with h2 | ⟨g,cap,cur,rfl,hgb,hh,rest⟩
 ·exact .inl h2
 ·have:=hl g (by simp [Value.ownBlock])
  exact .inr ⟨g,cap,cur,rfl,hgb,by rw [hg.block g (by omega) (fun e=>hr g (by simp [Value.ownBlock]) e.symm)];exact hh,rest⟩
theorem flatK_news {w:World} {b off:Nat} {L:List (Int×Int)} (h:∀ k,k < L.length->w.cell? ⟨b,off+k * 2,none⟩=some (.int .i64 (X L k))∧w.cell? ⟨b,off+k * 2+1,none⟩=some (.int .i64 (Y L k))):∀ j u,(flatC L)[j]?=some u->w.cell? ((⟨b,off,none⟩:Addr).add j)=some u:=by
 intro j u hj
 have hjl:j < L.length * 2:=by have:=(List.getElem?_eq_some_iff.1 hj).1;rwa [flatC_len] at this
 have e:(⟨b,off,none⟩:Addr).add j=⟨b,off+j,none⟩:=by by_cases e:j=0 <;> simp [Addr.add,e]
 rw [e]
 have hf:=flatC_at L (j / 2) (by omega)
 have hc:=h (j / 2) (by omega)
 by_cases hp:j % 2=0
 ·have e2:j=j / 2 * 2:=by omega
  rw [e2,hf.1] at hj
  rw [e2,hc.1,<- hj]
 ·have e2:j=j / 2 * 2+1:=by omega
  rw [e2,hf.2] at hj
  rw [e2,<- Nat.add_assoc,hc.2,<- hj]
theorem flatK_one (L:List (Int×Int)):∀ u ∈ flatC L,u.oneCell'=true:=by
 intro u hu
 simp only [flatC,List.mem_flatMap] at hu
 obtain ⟨c,_,hc⟩:=hu
 simp at hc
 rcases hc with rfl | rfl <;> rfl
theorem CO.formG {w:World} {base:Nat} {v:Value} {xs:List (Int×Int)} (h:CO w base v xs) :
  ∃ A c,v=.slice A xs.length c∧xs.length<=c∧(0 < xs.length->∃ b,A=some ⟨b,0,none⟩∧base<=b∧b < w.heap.size∧Cells w b 0 xs):=by
 obtain ⟨A,c,e,h1,_,h2⟩:=h.form
 refine ⟨A,c,e,h1,fun hp=>?_⟩
 obtain ⟨b,off,rfl,hlt,hc⟩:=h2 hp
 subst e
 rcases h.2 with ⟨h3,_⟩ | ⟨g',cap,cur,h3,hg,_⟩
 ·cases h3
 ·injection h3 with e1 e2 e3
  injection e1 with e1
  injection e1 with e1 e4 _
  subst e1 e4
  exact ⟨_,rfl,hg,hlt,hc⟩
section
variable {w:World}
theorem app_KC {ops:Array Oper} {rest:List Oper} {o:Oper} {a:Act} {Q:Exit->Act->World->Prop} (hw:Region.wanted o (yielded ops a.tmps)=true) (s x:Operand)
  (ho:o.op=.call { callee:=.builtin .append,args:=#[s,x],argTypes:=#[28,28] })
  (base:Nat) (v:Value) (M L:List (Int×Int)) (A:Option Addr) (c B m k:Nat) (hs:a.eval s=v) (hown:CO w base v M) (hx:a.eval x=.slice A m c) (hm:L.length=m) (hk:M.length+m=k)
  (hI:Cs w B A L) (hlen:k<=1000000000000) (hbase:base<=w.heap.size)
  (h:∀ G cap w',CO w' base (.slice G k cap) (M++L)->w.grownBy w' v.ownBlock->Below base w w'->wpList Tryz.prog ops Q rest (a.put o.dst (.slice G k cap)) w') :
  wpList Tryz.prog ops Q (o::rest) a w:=by
 subst hm hk
 obtain ⟨i0,hi,hz0,hz1,hz2⟩:=info_parts infoC
 show if Region.wanted o (yielded ops a.tmps) then _ else _
 rw [if_pos hw]
 refine Or.inl ?_
 by_cases hp:0 < L.length
 ·obtain ⟨b,off,rfl,-,hc⟩:=hI hp
  refine wp_append_lies w s x _ ho base 100 i0 _ 2 16 Tryz.underlying28 hi hz0 hz1 hz2 rfl (by decide) v M.length _ hs hown
   ⟨b,off,none⟩ L.length c (flatC L) hx (flatC_len L) (flatK_news hc) (flatK_one L) hp (by simp only [maxLen];omega) (by omega) hbase _ rfl ?_
  intro g cap w' h1 h2 _ _
  exact h (some ⟨g,0,none⟩) cap w' (by simpa [CO,flatC] using h1) h2 ((Below.refl _ _).grown h2 hbase (owns_base hown))
 ·have h0:L=[]:=List.eq_nil_of_length_eq_zero (by omega)
  subst h0
  obtain ⟨G,g,rfl,hg1,-,-⟩:=hown.form
  have hsrc:Src Tryz.prog i0.size 28 (.slice A 0 c) 0 [] w:=⟨.inl ⟨_,Tryz.underlying28⟩,fun w'=>by simp [Builtin.lenOf],by cases A <;> simp [Builtin.firstCells,loadCells,loadCellsFrom],by cases A <;> simp [Builtin.firstCells,loadCells,loadCellsFrom],by simp,fun u hu=>by cases hu⟩
  have hr:=run_append_nothing (P:=Tryz.prog) w 28 28 o.type 100 i0 Tryz.underlying28 hi G M.length g hg1 (.slice A 0 c) hsrc
  have hx':a.eval x=.slice A 0 c:=hx
  unfold Oper.wp execOp
  simp only [ho,resolve,invoke,builtin,Sem.run_bind,Sem.run_pure,Result.andThen_ok,List.map_toArray,List.map_cons,List.map_nil,hs,hx',hr]
  exact h G g w (by simpa using hown) ⟨rfl,rfl,rfl,Nat.le_refl _,fun _ _ _=>rfl⟩ (Below.refl _ _)
theorem step_KC {ops:Array Oper} {o:Oper} {a:Act} {K:Act->World->Prop} {Q:Exit->Act->World->Prop} {E:Prop} (hgd:o.guard=none) (s x:Operand)
  (ho:o.op=.call { callee:=.builtin .append,args:=#[s,x],argTypes:=#[28,28] })
  (base:Nat) (v:Value) (M L:List (Int×Int)) (A:Option Addr) (c B m k:Nat) (hs:a.eval s=v) (hown:CO w base v M) (hx:a.eval x=.slice A m c) (hm:L.length=m) (hk:M.length+m=k)
  (hI:Cs w B A L) (hlen:k<=1000000000000) (hbase:base<=w.heap.size)
  (h:∀ G cap w',CO w' base (.slice G k cap) (M++L)->w.grownBy w' v.ownBlock->Below base w w'->K (a.put o.dst (.slice G k cap)) w') :
  if Region.wanted o (yielded ops a.tmps)=true then Oper.wp Tryz.prog o a w K Q else E:=by
 subst hm hk
 obtain ⟨i0,hi,hz0,hz1,hz2⟩:=info_parts infoC
 by_cases hp:0 < L.length
 ·obtain ⟨b,off,rfl,-,hc⟩:=hI hp
  refine step_append_lies w hgd s x _ ho base 100 i0 _ 2 16 Tryz.underlying28 hi hz0 hz1 hz2 rfl (by decide) v M.length _ hs hown
   ⟨b,off,none⟩ L.length c (flatC L) hx (flatC_len L) (flatK_news hc) (flatK_one L) hp (by simp only [maxLen];omega) (by omega) hbase _ rfl ?_
  intro g cap w' h1 h2 _ _
  exact h (some ⟨g,0,none⟩) cap w' (by simpa [CO,flatC] using h1) h2 ((Below.refl _ _).grown h2 hbase (owns_base hown))
 ·have h0:L=[]:=List.eq_nil_of_length_eq_zero (by omega)
  subst h0
  obtain ⟨G,g,rfl,hg1,-,-⟩:=hown.form
  have hsrc:Src Tryz.prog i0.size 28 (.slice A 0 c) 0 [] w:=⟨.inl ⟨_,Tryz.underlying28⟩,fun w'=>by simp [Builtin.lenOf],by cases A <;> simp [Builtin.firstCells,loadCells,loadCellsFrom],by cases A <;> simp [Builtin.firstCells,loadCells,loadCellsFrom],by simp,fun u hu=>by cases hu⟩
  have hr:=run_append_nothing (P:=Tryz.prog) w 28 28 o.type 100 i0 Tryz.underlying28 hi G M.length g hg1 (.slice A 0 c) hsrc
  have hx':a.eval x=.slice A 0 c:=hx
  rw [if_pos (show Region.wanted o (yielded ops a.tmps)=true by simp [Region.wanted,hgd])]
  unfold Oper.wp execOp
  simp only [ho,resolve,invoke,builtin,Sem.run_bind,Sem.run_pure,Result.andThen_ok,List.map_toArray,List.map_cons,List.map_nil,hs,hx',hr]
  exact h G g w (by simpa using hown) ⟨rfl,rfl,rfl,Nat.le_refl _,fun _ _ _=>rfl⟩ (Below.refl _ _)
end
theorem infoCS:(Tryz.prog.info? 28).map (fun i=>(i.zero,i.size,i.bytes))=some (some (.slice none 0 0),1,24):=by kernel_rfl
structure COO (w:World) (base:Nat) (v:Value) (xss:List (List (Int×Int))) (vs:List Value):Prop where
 row:w.ownsRow base 28 1 v xss.length vs
 inner:∀ k,k < xss.length->CO w base (vs.getD k undef) (xss.getD k [])
 apart:∀ k,k < xss.length->∀ r,(vs.getD k undef).ownBlock=some r->v.ownBlock≠some r
 diff:∀ i j,i < xss.length->j < xss.length->i≠j->∀ r,(vs.getD i undef).ownBlock=some r->(vs.getD j undef).ownBlock≠some r
theorem COO.len {w:World} {base:Nat} {v:Value} {xss:List (List (Int×Int))} {vs:List Value} (h:COO w base v xss vs):vs.length=xss.length:=by
 have:=h.row.1
 omega
theorem COO.nil (w:World) (base:Nat):COO w base (.slice none 0 0) [] []:=⟨⟨rfl,.inl ⟨rfl,rfl⟩⟩,fun k h=>by simp at h,fun k h=>by simp at h,fun i j h=>by simp at h⟩
theorem COO.empty (w:World) {base:Nat} (h:base<=w.heap.size):COO (w.alloc (.cells #[] 28)) base (.slice (some ⟨w.heap.size,0,none⟩) 0 0) [] [] :=
 ⟨⟨rfl,.inr ⟨w.heap.size,0,#[],rfl,h,heap_alloc_new _ _,Nat.le_refl _,by simp [maxLen],rfl,rfl⟩⟩,fun k h=>by simp at h,fun k h=>by simp at h,fun i j h=>by simp at h⟩
theorem COO.below {w w':World} {base B:Nat} {v:Value} {xss:List (List (Int×Int))} {vs:List Value} (h:COO w base v xss vs) (hb:Below B w w') (hB:w.heap.size<=B):COO w' base v xss vs :=
 ⟨owns_below h.row hb hB,fun k hk=>(h.inner k hk).below hb hB,h.apart,h.diff⟩
theorem COO.mono {w:World} {base base':Nat} {v:Value} {xss:List (List (Int×Int))} {vs:List Value} (h:COO w base v xss vs) (hB:base'<=base):COO w base' v xss vs :=
 ⟨owns_mono h.row hB,fun k hk=>(h.inner k hk).mono hB,h.apart,h.diff⟩
theorem COO.form {w:World} {base:Nat} {v:Value} {xss:List (List (Int×Int))} {vs:List Value} (h:COO w base v xss vs) :
  ∃ A c,v=.slice A xss.length c∧xss.length<=c∧c<=maxLen∧(0 < xss.length->∃ g,A=some ⟨g,0,none⟩∧base<=g∧g < w.heap.size∧(∀ k,k < xss.length->w.cell? ⟨g,k,none⟩=some (vs.getD k undef))∧∀ j,w.frozen? ⟨g,j,none⟩=false):=by
 have hl:=owns_lt h.row
 have hn:=h.len
 rcases h.row.2 with ⟨rfl,h0⟩ | ⟨g,cap,cur,rfl,hg,hh,h1,h2,h3,h4⟩
 ·exact ⟨none,0,by rw [h0],by omega,by simp [maxLen],fun hp=>by omega⟩
 ·refine ⟨_,cap,rfl,h1,h2,fun _=>⟨g,rfl,hg,hl g (by simp [Value.ownBlock]),fun k hk=>?_,fun j=>World.ownsRow.frozenAt h.row j⟩⟩
  rw [World.ownsRow.cellAt h.row k (by omega)]
  simp [List.getD,List.getElem?_eq_getElem (show k < vs.length by omega)]
theorem COO.cells {w:World} {base g n c:Nat} {xss:List (List (Int×Int))} {vs:List Value} (h:COO w base (.slice (some ⟨g,0,none⟩) n c) xss vs) :
  n=xss.length∧(∀ k,k < n->w.cell? ⟨g,k,none⟩=some (vs.getD k undef))∧∀ j,w.frozen? ⟨g,j,none⟩=false:=by
 have hn:n=xss.length:=by
  rcases h.row.2 with ⟨h2,_⟩ | ⟨g',cap,cur,h2,_⟩
  ·cases h2
  ·injection h2
 subst hn
 refine ⟨rfl,fun k hk=>?_,fun j=>World.ownsRow.frozenAt h.row j⟩
 have:=h.len
 rw [World.ownsRow.cellAt h.row k (by omega)]
 simp [List.getD,List.getElem?_eq_getElem (show k < vs.length by omega)]
theorem COO.inner_lt {w:World} {base:Nat} {v:Value} {xss:List (List (Int×Int))} {vs:List Value} (h:COO w base v xss vs) {k:Nat} (hk:k < xss.length) {r:Nat} (hr:(vs.getD k undef).ownBlock=some r):r < w.heap.size∧base<=r :=
 ⟨owns_lt (h.inner k hk) r hr,owns_base (h.inner k hk) r hr⟩
section
variable {w:World}
theorem COO.grow {w w' W:World} {base g cap:Nat} {v sl:Value} {xss:List (List (Int×Int))} {ys:List (Int×Int)} {vs:List Value}
  (h:COO w base v xss vs) (hW:Below w.heap.size w W) (hin:CO W base sl ys) (hsl:∀ r,sl.ownBlock=some r->w.heap.size<=r)
  (h1:w'.ownsRow base 28 1 (.slice (some ⟨g,0,none⟩) (xss.length+1) cap) (xss.length+1) (vs++[sl])) (hg:W.grownBy w' v.ownBlock) (hat:v.ownBlock=some g∨g=W.heap.size) :
  COO w' base (.slice (some ⟨g,0,none⟩) (xss.length+1) cap) (xss++[ys]) (vs++[sl]):=by
 have hln:=h.len
 have hsz:=hW.size
 have hvl:=owns_lt h.row
 have hsl2:=owns_lt hin
 have notg:∀ k,k < xss.length->∀ r,(vs.getD k undef).ownBlock=some r->r≠g:=by
  intro k hk r hr e
  subst e
  rcases hat with e2 | e2
  ·exact h.apart k hk _ hr e2
  ·have:=(h.inner_lt hk hr).1;omega
 refine ⟨by simpa using h1,fun k hk=>?_,fun k hk r hr e=>?_,fun i j hi hj hij r hr e=>?_⟩
 ·simp only [List.length_append,List.length_singleton] at hk
  rw [getD_app,getD_app,hln]
  by_cases e:k < xss.length
  ·rw [if_pos e,if_pos e]
   refine ((h.inner k e).below hW (Nat.le_refl _)).grownR' hg (fun r hr hr2=>h.apart k e r hr hr2)
  ·rw [if_neg e,if_neg e,if_pos (by omega),if_pos (by omega)]
   refine hin.grownR' hg (fun r hr hr2=>?_)
   have:=hsl r hr
   have:=hvl r hr2
   omega
 ·simp only [List.length_append,List.length_singleton] at hk
  have eg:g=r:=by simpa [Value.ownBlock] using e
  subst eg
  rw [getD_app,hln] at hr
  by_cases e1:k < xss.length
  ·rw [if_pos e1] at hr
   exact notg k e1 _ hr rfl
  ·rw [if_neg e1,if_pos (by omega)] at hr
   have:=hsl _ hr
   have:=hsl2 _ hr
   rcases hat with e2 | e2
   ·have:=hvl _ e2;omega
   ·omega
 ·simp only [List.length_append,List.length_singleton] at hi hj
  rw [getD_app,hln] at hr e
  by_cases e1:i < xss.length
  ·rw [if_pos e1] at hr
   by_cases e2:j < xss.length
   ·rw [if_pos e2] at e
    exact h.diff i j e1 e2 hij r hr e
   ·rw [if_neg e2,if_pos (by omega)] at e
    have:=hsl _ e
    have:=(h.inner_lt e1 hr).1
    omega
  ·rw [if_neg e1,if_pos (by omega)] at hr
   have:=hsl _ hr
   by_cases e2:j < xss.length
   ·rw [if_pos e2] at e
    have:=(h.inner_lt e2 e).1
    omega
   ·omega
theorem app_CO {ops:Array Oper} {rest:List Oper} {o:Oper} {a:Act} {Q:Exit->Act->World->Prop} (hgd:o.guard=none) (s x:Operand)
  (ho:o.op=.call { callee:=.builtin .append,args:=#[s,x],argTypes:=#[29,29] })
  (base:Nat) (v:Value) (xss:List (List (Int×Int))) (vs:List Value) (w0:World) (sl:Value) (ys:List (Int×Int)) (B:Nat) (hs:a.eval s=v) (hown:COO w0 base v xss vs) (hW:Below w0.heap.size w0 w)
  (hin:CO w base sl ys) (hsl:∀ r,sl.ownBlock=some r->w0.heap.size<=r) (hone:sl.oneCell'=true) (hx:a.eval x=.slice (some ⟨B,0,none⟩) 1 1)
  (hB:w.heap[B]?=some (.cells #[sl] 28 (0,0))) (hlen:xss.length<=1000000000) (hbase:base<=w.heap.size)
  (h:∀ g cap w',COO w' base (.slice (some ⟨g,0,none⟩) (xss.length+1) cap) (xss++[ys]) (vs++[sl])->w.grownBy w' v.ownBlock->(v.ownBlock=some g∨g=w.heap.size)->Below base w w'->wpList Tryz.prog ops Q rest (a.put o.dst (.slice (some ⟨g,0,none⟩) (xss.length+1) cap)) w') :
  wpList Tryz.prog ops Q (o::rest) a w:=by
 obtain ⟨i0,hi0,hz0,hz1,hz2⟩:=info_parts infoCS
 refine wpList_append_lies w hgd s x _ ho base 28 i0 _ 1 24 Tryz.underlying29 hi0 hz0 hz1 hz2 rfl (by decide) v xss.length _ hs (owns_below hown.row hW (Nat.le_refl _))
  ⟨B,0,none⟩ 1 1 [sl] hx rfl (World.news_of_block (cs:=#[sl]) hB) (by simpa using hone) (by decide) (by simp only [maxLen];omega) (by omega) hbase _ rfl ?_
 intro g cap w' h1 h2 h3 _
 exact h g cap w' (hown.grow hW hin hsl h1 h2 h3) h2 h3 ((Below.refl _ _).grown h2 hbase (owns_base hown.row))
theorem step_CO {ops:Array Oper} {o:Oper} {a:Act} {K:Act->World->Prop} {Q:Exit->Act->World->Prop} {E:Prop} (hgd:o.guard=none) (s x:Operand)
  (ho:o.op=.call { callee:=.builtin .append,args:=#[s,x],argTypes:=#[29,29] })
  (base:Nat) (v:Value) (xss:List (List (Int×Int))) (vs:List Value) (w0:World) (sl:Value) (ys:List (Int×Int)) (B:Nat) (hs:a.eval s=v) (hown:COO w0 base v xss vs) (hW:Below w0.heap.size w0 w)
  (hin:CO w base sl ys) (hsl:∀ r,sl.ownBlock=some r->w0.heap.size<=r) (hone:sl.oneCell'=true) (hx:a.eval x=.slice (some ⟨B,0,none⟩) 1 1)
  (hB:w.heap[B]?=some (.cells #[sl] 28 (0,0))) (hlen:xss.length<=1000000000) (hbase:base<=w.heap.size)
  (h:∀ g cap w',COO w' base (.slice (some ⟨g,0,none⟩) (xss.length+1) cap) (xss++[ys]) (vs++[sl])->w.grownBy w' v.ownBlock->(v.ownBlock=some g∨g=w.heap.size)->Below base w w'->K (a.put o.dst (.slice (some ⟨g,0,none⟩) (xss.length+1) cap)) w') :
  if Region.wanted o (yielded ops a.tmps)=true then Oper.wp Tryz.prog o a w K Q else E:=by
 obtain ⟨i0,hi0,hz0,hz1,hz2⟩:=info_parts infoCS
 refine step_append_lies w hgd s x _ ho base 28 i0 _ 1 24 Tryz.underlying29 hi0 hz0 hz1 hz2 rfl (by decide) v xss.length _ hs (owns_below hown.row hW (Nat.le_refl _))
  ⟨B,0,none⟩ 1 1 [sl] hx rfl (World.news_of_block (cs:=#[sl]) hB) (by simpa using hone) (by decide) (by simp only [maxLen];omega) (by omega) hbase _ rfl ?_
 intro g cap w' h1 h2 h3 _
 exact h g cap w' (hown.grow hW hin hsl h1 h2 h3) h2 h3 ((Below.refl _ _).grown h2 hbase (owns_base hown.row))
end
theorem COO.store {w W:World} {base g n c:Nat} {xss:List (List (Int×Int))} {ys:List (Int×Int)} {sl:Value} {vs:List Value} (h:COO w base (.slice (some ⟨g,0,none⟩) n c) xss vs) (hW:Below w.heap.size w W)
  (hin:CO W base sl ys) (hsl:∀ r,sl.ownBlock=some r->w.heap.size<=r) (k:Nat) (hk:k < n) :
  COO (W.setCell ⟨g,k,none⟩ sl) base (.slice (some ⟨g,0,none⟩) n c) (xss.set k ys) (vs.set k sl):=by
 have hn:=h.cells.1
 subst hn
 have hln:=h.len
 have hgl:=owns_lt h.row g (by simp [Value.ownBlock])
 have h1:=(World.ownsRow.stored (g:=g) (cap:=c) (owns_below h.row hW (Nat.le_refl _)) k sl).1
 have hset:∀ v' zs,(∀ r,v'.ownBlock=some r->r≠g)->CO W base v' zs->CO (W.setCell ⟨g,k,none⟩ sl) base v' zs:=by
  intro v' zs hne hio
  exact hio.grownR' (row:=some g) ⟨rfl,rfl,rfl,by simp [World.setCell],fun b _ hb=>Below.heap_setCell _ _ _ _ (fun e=>hb (by rw [e]))⟩ (fun r hr hr2=>hne r hr (by cases hr2;rfl))
 refine ⟨by rw [List.length_set];exact h1,fun i hi=>?_,fun i hi r hr e=>?_,fun i j hi hj hij r hr e=>?_⟩
 ·rw [List.length_set] at hi
  rw [getD_set' _ _ _ _ _ (by omega),getD_set' _ _ _ _ _ (by omega)]
  split
  ·exact hset _ _ (fun r hr=>by have:=hsl r hr;omega) hin
  ·exact hset _ _ (fun r hr e=>h.apart i hi r hr (by simp [Value.ownBlock,e])) ((h.inner i hi).below hW (Nat.le_refl _))
 ·rw [List.length_set] at hi
  have eg:g=r:=by simpa [Value.ownBlock] using e
  rw [getD_set' _ _ _ _ _ (by omega)] at hr
  split at hr
  ·have:=hsl _ hr;omega
  ·exact h.apart i hi r hr e
 ·rw [List.length_set] at hi hj
  rw [getD_set' _ _ _ _ _ (by omega)] at hr e
  split at hr
  ·have:=hsl _ hr
   split at e
   ·omega
   ·have:=(h.inner_lt hj e).1;omega
  ·split at e
   ·have:=hsl _ e
    have:=(h.inner_lt hi hr).1;omega
   ·exact h.diff i j hi hj hij r hr e
theorem COO.keptLow {w w':World} {base r:Nat} {v:Value} {xss:List (List (Int×Int))} {vs:List Value} (h:COO w base v xss vs) (hg:w.grownBy w' (some r)) (hr:r < base):COO w' base v xss vs :=
 ⟨owns_kept h.row hg (fun k hk e=>by cases e;have:=owns_base h.row _ hk;omega),fun k hk=>(h.inner k hk).grownR' hg (fun j hj e=>by cases e;have:=owns_base (h.inner k hk) _ hj;omega),h.apart,h.diff⟩
end
section
def dig8 (n:Nat):UInt8:=UInt8.ofNat (48+n % 10)
def numL (n:Nat):List UInt8:=if n < 10 then [dig8 n] else numL (n / 10)++[dig8 n]
termination_by n
theorem numL_one {n:Nat} (h:n < 10):numL n=[dig8 n]:=by rw [numL,if_pos h]
theorem numL_more {n:Nat} (h:¬ n < 10):numL n=numL (n / 10)++[dig8 n]:=by rw [numL,if_neg h]
theorem dig8_nat (n:Nat):(dig8 n).toNat=48+n % 10:=by
 have:n % 10 < 10:=Nat.mod_lt _ (by omega)
 simp [dig8,UInt8.toNat_ofNat'];omega
def isD (c:UInt8):Bool:=decide (48<=c.toNat∧c.toNat<=57)
def valN (l:List UInt8):Nat:=l.foldl (fun n c=>10 * n+(c.toNat - 48)) 0
theorem valN_snoc (l:List UInt8) (c:UInt8):valN (l++[c])=10 * valN l+(c.toNat - 48):=by simp [valN]
theorem dig8_isD (n:Nat):isD (dig8 n)=true:=by
 have:n % 10 < 10:=Nat.mod_lt _ (by omega)
 simp only [isD,dig8_nat,decide_eq_true_eq];omega
theorem numL_all (n:Nat):(numL n).all isD=true:=by
 induction n using Nat.strongRecOn with
 | _ n ih =>
  by_cases h:n < 10
  ·rw [numL_one h];simp [dig8_isD]
  ·rw [numL_more h,List.all_append,ih (n / 10) (by omega)];simp [dig8_isD]
theorem numL_val (n:Nat):valN (numL n)=n:=by
 induction n using Nat.strongRecOn with
 | _ n ih =>
  by_cases h:n < 10
  ·rw [numL_one h];simp only [valN,List.foldl,dig8_nat];omega
  ·rw [numL_more h,valN_snoc,ih (n / 10) (by omega),dig8_nat];omega
theorem numL_ne (n:Nat):1<=(numL n).length:=by
 by_cases h:n < 10
 ·rw [numL_one h];simp
 ·rw [numL_more h];simp
theorem numL_len:∀ (k n:Nat),n < 10 ^ (k+1)->(numL n).length<=k+1:=by
 intro k
 induction k with
 | zero=>intro n h;rw [numL_one (by simpa using h)];simp
 | succ k ih =>
  intro n h
  by_cases h1:n < 10
  ·rw [numL_one h1];simp
  ·rw [numL_more h1]
   have:=ih (n / 10) (by rw [Nat.pow_succ] at h;omega)
   simp;omega
theorem dig8_zero {n:Nat} (h:dig8 n=48):n % 10=0:=by
 have e:=congrArg UInt8.toNat h
 rw [dig8_nat] at e
 have:(48:UInt8).toNat=48:=rfl
 omega
theorem numL_head (n:Nat) (h:1<=n):(numL n).head?≠some 48:=by
 induction n using Nat.strongRecOn with
 | _ n ih =>
  by_cases h1:n < 10
  ·rw [numL_one h1]
   intro e
   simp only [List.head?_cons,Option.some.injEq] at e
   have:=dig8_zero e;omega
  ·rw [numL_more h1,List.head?_append]
   have:=ih (n / 10) (by omega) (by omega)
   have hne:=numL_ne (n / 10)
   cases hx:numL (n / 10) with
   | nil=>rw [hx] at hne;simp at hne
   | cons c l=>rw [hx] at this;simpa using this
theorem numL_lead (n:Nat):1 < (numL n).length->(numL n).head?≠some 48:=by
 intro h
 refine numL_head n ?_
 cases n with
 | zero=>rw [numL_one (by omega)] at h;simp at h
 | succ n=>omega
theorem numL_inj {a b:Nat} (h:numL a=numL b):a=b:=by rw [<- numL_val a,h,numL_val]
theorem isD_nat {c:UInt8} (h:isD c=true):48<=c.toNat∧c.toNat<=57:=by simpa [isD] using h
theorem dig8_of {c:UInt8} (h:isD c=true) {n:Nat} (hn:n % 10=c.toNat - 48):dig8 n=c:=by
 have:=isD_nat h
 apply UInt8.toNat_inj.1
 rw [dig8_nat];omega
theorem valN_pos:∀ l:List UInt8,l.all isD=true->l.head?≠some 48->l≠[]->1<=valN l:=by
 have key:∀ (l:List UInt8) (n:Nat),n<=l.foldl (fun n c=>10 * n+(c.toNat - 48)) n:=by
  intro l
  induction l with
  | nil=>intro n;exact Nat.le_refl _
  | cons c l ih=>intro n;have:=ih (10 * n+(c.toNat - 48));simp only [List.foldl];omega
 intro l ha hh hne
 cases l with
 | nil=>exact absurd rfl hne
 | cons c l =>
  simp only [List.all_cons,Bool.and_eq_true] at ha
  have hc:=isD_nat ha.1
  have hz:c≠48:=by simpa using hh
  have:c.toNat≠48:=fun e=>hz (UInt8.toNat_inj.1 (by rw [e];rfl))
  have:=key l (10 * 0+(c.toNat - 48))
  simp only [valN,List.foldl];omega
theorem num_of:∀ (m:Nat) (l:List UInt8),l.length=m->l≠[]->l.all isD=true->(1 < l.length->l.head?≠some 48)->numL (valN l)=l:=by
 intro m
 induction m with
 | zero=>intro l hl hne;exact absurd (List.length_eq_zero_iff.1 hl) hne
 | succ m ih =>
  intro l hl hne ha hh
  obtain ⟨l',c,rfl⟩:∃ l' c,l=l'++[c]:=⟨l.dropLast,l.getLast hne,(List.dropLast_concat_getLast hne).symm⟩
  simp only [List.all_append,Bool.and_eq_true,List.all_cons,List.all_nil,and_true] at ha
  have hc:=isD_nat ha.2
  rw [valN_snoc]
  by_cases h0:l'=[]
  ·subst h0
   rw [show valN []=0 from rfl,numL_one (by omega)]
   simp only [List.nil_append,List.cons.injEq,and_true]
   exact dig8_of ha.2 (by omega)
  ·have hl1:l'.length=m:=by simp at hl;exact hl
   have hp:0 < l'.length:=List.length_pos_iff.2 h0
   have hh1:l'.head?≠some 48:=by
    have:=hh (by simp;omega)
    rw [List.head?_append] at this
    cases hx:l' with
    | nil=>exact absurd hx h0
    | cons d r=>rw [hx] at this;simpa using this
   have hv:=valN_pos l' ha.1 hh1 h0
   rw [numL_more (by omega),show (10 * valN l'+(c.toNat - 48)) / 10=valN l' by omega,ih l' hl1 h0 ha.1 (fun _=>hh1),dig8_of ha.2 (by omega)]
def digOk (l:List UInt8):Bool:=decide (1<=l.length∧l.length<=6) && !(decide (1 < l.length) && l.head? == some 48) && l.all isD
def digL (l:List UInt8):Int:=if digOk l=true then (valN l:Int) else -1
theorem digOk_parts {l:List UInt8} (h:digOk l=true):(1<=l.length∧l.length<=6)∧(1 < l.length->l.head?≠some 48)∧l.all isD=true:=by
 simp only [digOk,Bool.and_eq_true,decide_eq_true_eq,Bool.not_eq_true',Bool.and_eq_false_iff,decide_eq_false_iff_not] at h
 refine ⟨h.1.1,fun h1 e=>?_,h.2⟩
 rcases h.1.2 with h2 | h2
 ·exact h2 h1
 ·rw [e] at h2;simp at h2
theorem digL_num {n:Nat} (h:n < 1000000):digL (numL n)=n:=by
 have h1:=numL_ne n
 have h2:=numL_len 5 n (by simpa using h)
 have h3:=numL_all n
 have h4:=numL_lead n
 have:digOk (numL n)=true:=by
  simp only [digOk,Bool.and_eq_true,decide_eq_true_eq,h3,and_true,Bool.not_eq_true',Bool.and_eq_false_iff,decide_eq_false_iff_not]
  refine ⟨by omega,?_⟩
  by_cases h5:1 < (numL n).length
  ·right
   have:=h4 h5
   cases hx:(numL n).head? with
   | none=>rfl
   | some c=>rw [hx] at this;simpa using this
  ·exact .inl h5
 rw [digL,if_pos this,numL_val]
def cutS (sep:UInt8) (l:List UInt8):List (List UInt8)×List UInt8:=l.foldl (fun s c=>if c=sep then (s.1++[s.2],[]) else (s.1,s.2++[c])) ([],[])
def cutL (sep:UInt8) (l:List UInt8):List (List UInt8):=(cutS sep l).1++[(cutS sep l).2]
theorem cutS_snoc (sep:UInt8) (l:List UInt8) (c:UInt8):cutS sep (l++[c])=if c=sep then ((cutS sep l).1++[(cutS sep l).2],[]) else ((cutS sep l).1,(cutS sep l).2++[c]):=by
 simp [cutS]
theorem cutS_word {sep:UInt8} (l:List UInt8):∀ (w:List UInt8),sep ∉ w->cutS sep (l++w)=((cutS sep l).1,(cutS sep l).2++w):=by
 intro w
 have key:∀ (w:List UInt8) (s:List (List UInt8)×List UInt8),sep ∉ w->w.foldl (fun s c=>if c=sep then (s.1++[s.2],[]) else (s.1,s.2++[c])) s=(s.1,s.2++w):=by
  intro w
  induction w with
  | nil=>intro s _;simp
  | cons c w ih =>
   intro s h
   simp only [List.mem_cons,not_or] at h
   simp only [List.foldl]
   rw [if_neg (fun e=>h.1 e.symm),ih _ h.2]
   simp
 intro h
 rw [cutS,List.foldl_append]
 exact key w _ h
theorem cutS_sep (sep:UInt8) (l:List UInt8):cutS sep (l++[sep])=((cutS sep l).1++[(cutS sep l).2],[]):=by rw [cutS_snoc,if_pos rfl]
theorem cutS_len (sep:UInt8) (l:List UInt8):(cutS sep l).1.length<=l.length:=by
 have key:∀ (l:List UInt8) (s:List (List UInt8)×List UInt8),(l.foldl (fun s c=>if c=sep then (s.1++[s.2],[]) else (s.1,s.2++[c])) s).1.length<=s.1.length+l.length:=by
  intro l
  induction l with
  | nil=>intro s;simp
  | cons c l ih =>
   intro s
   simp only [List.foldl]
   split
   ·have:=ih (s.1++[s.2],[]);simp at this ⊢;omega
   ·have:=ih (s.1,s.2++[c]);simp at this ⊢;omega
 have:=key l ([],[])
 simpa [cutS] using this
theorem numL_no32 (n:Nat):(32:UInt8) ∉ numL n:=by
 intro h
 have:=List.all_eq_true.1 (numL_all n) _ h
 simp [isD] at this
theorem cut_two (u v:List UInt8) (hu:(32:UInt8) ∉ u) (hv:(32:UInt8) ∉ v):cutL 32 (u++[32]++v)=[u,v]:=by
 rw [cutL,cutS_word _ _ hv,cutS_sep,show u=[]++u by simp,cutS_word _ _ hu];simp [cutS]
theorem cut_three (u v x:List UInt8) (hu:(32:UInt8) ∉ u) (hv:(32:UInt8) ∉ v) (hx:(32:UInt8) ∉ x):cutL 32 (u++[32]++v++[32]++x)=[u,v,x]:=by
 rw [cutL,cutS_word _ _ hx,cutS_sep,cutS_word _ _ hv,cutS_sep,show u=[]++u by simp,cutS_word _ _ hu];simp [cutS]
structure DV where
 k:Int
 a:Int
 b:Int
deriving DecidableEq
def wCome:List UInt8:=[99,111,109,101]
def wNeed:List UInt8:=[110,101,101,100]
def wLater:List UInt8:=[108,97,116,101,114]
def wGo:List UInt8:=[103,111]
def wBack:List UInt8:=[98,97,99,107]
def deedL (d:DV):List UInt8 :=
 if d.k=0∧(0<=d.a∧d.a<=99)∧(0<=d.b∧d.b<=99) then wCome++[32]++numL d.a.toNat++[32]++numL d.b.toNat
 else if d.k=2∧(0<=d.a∧d.a<=99)∧d.b=0 then wNeed++[32]++numL d.a.toNat
 else if d.k=3∧(0<=d.a∧d.a<=99)∧d.b=0 then wLater++[32]++numL d.a.toNat
 else if d=⟨1,0,0⟩ then wGo
 else if d=⟨4,0,0⟩ then wBack
 else []
def candL (s:List UInt8):List DV :=
 [⟨1,0,0⟩,⟨4,0,0⟩]
   ++ (if (cutL 32 s).length=3 then [⟨0,digL ((cutL 32 s).getD 1 []),digL ((cutL 32 s).getD 2 [])⟩] else [])
   ++ (if (cutL 32 s).length=2 then [⟨2,digL ((cutL 32 s).getD 1 []),0⟩,⟨3,digL ((cutL 32 s).getD 1 []),0⟩] else [])
def readD (s:List UInt8):Option DV:=(candL s).find? fun d=>decide (s≠[]) && decide (deedL d=s)
theorem deed_ways (d:DV):deedL d=[]∨(d.k=0∧(0<=d.a∧d.a<=99)∧(0<=d.b∧d.b<=99)∧deedL d=wCome++[32]++numL d.a.toNat++[32]++numL d.b.toNat)
  ∨ (d.k=2∧(0<=d.a∧d.a<=99)∧d.b=0∧deedL d=wNeed++[32]++numL d.a.toNat)
  ∨ (d.k=3∧(0<=d.a∧d.a<=99)∧d.b=0∧deedL d=wLater++[32]++numL d.a.toNat)
  ∨ (d=⟨1,0,0⟩∧deedL d=wGo)∨(d=⟨4,0,0⟩∧deedL d=wBack):=by
 unfold deedL
 split
 ·rename_i h;exact .inr (.inl ⟨h.1,h.2.1,h.2.2,rfl⟩)
 ·split
  ·rename_i h;exact .inr (.inr (.inl ⟨h.1,h.2.1,h.2.2,rfl⟩))
  ·split
   ·rename_i h;exact .inr (.inr (.inr (.inl ⟨h.1,h.2.1,h.2.2,rfl⟩)))
   ·split
    ·rename_i h;exact .inr (.inr (.inr (.inr (.inl ⟨h,rfl⟩))))
    ·split
     ·rename_i h;exact .inr (.inr (.inr (.inr (.inr ⟨h,rfl⟩))))
     ·exact .inl rfl
theorem deed_inj {c d:DV} (h:deedL c=deedL d) (hne:deedL d≠[]):c=d:=by
 have n3:=fun n=>numL_no32 n
 obtain ⟨ck,ca,cb⟩:=c
 obtain ⟨dk,da,db⟩:=d
 have hc:=deed_ways ⟨ck,ca,cb⟩
 have hd:=deed_ways ⟨dk,da,db⟩
 rw [h] at hc
 simp only [DV.mk.injEq] at hc hd ⊢
 rcases hd with e | ⟨d1,d2,d3,e⟩ | ⟨d1,d2,d3,e⟩ | ⟨d1,d2,d3,e⟩ | ⟨d1,e⟩ | ⟨d1,e⟩
 ·exact absurd e hne
 all_goals rw [e] at hc
 all_goals rcases hc with g | ⟨c1,c2,c3,g⟩ | ⟨c1,c2,c3,g⟩ | ⟨c1,c2,c3,g⟩ | ⟨c1,g⟩ | ⟨c1,g⟩
 all_goals first
  | (exfalso;simp [wCome,wNeed,wLater,wGo,wBack] at g;done)
  | skip
 ·have w1:=cut_three wCome (numL da.toNat) (numL db.toNat) (by decide) (n3 _) (n3 _)
  have w2:=cut_three wCome (numL ca.toNat) (numL cb.toNat) (by decide) (n3 _) (n3 _)
  rw [g,w2] at w1
  injection w1 with _ w1
  injection w1 with w3 w1
  injection w1 with w4 _
  have:=numL_inj w3
  have:=numL_inj w4
  omega
 ·have w3:=numL_inj (List.append_cancel_left g)
  omega
 ·have w3:=numL_inj (List.append_cancel_left g)
  omega
 ·omega
 ·omega
theorem deed_cand (d:DV) (hne:deedL d≠[]):d ∈ candL (deedL d):=by
 have n3:=fun n=>numL_no32 n
 obtain ⟨dk,da,db⟩:=d
 have hd:=deed_ways ⟨dk,da,db⟩
 simp only [DV.mk.injEq] at hd
 rcases hd with e | ⟨d1,d2,d3,e⟩ | ⟨d1,d2,d3,e⟩ | ⟨d1,d2,d3,e⟩ | ⟨d1,e⟩ | ⟨d1,e⟩
 ·exact absurd e hne
 all_goals rw [e]
 ·have w1:=cut_three wCome (numL da.toNat) (numL db.toNat) (by decide) (n3 _) (n3 _)
  simp only [candL,w1]
  simp only [List.length_cons,List.length_nil,List.getD_cons_succ,List.getD_cons_zero,Nat.zero_add,Nat.reduceAdd,if_true,List.mem_append,List.mem_cons,DV.mk.injEq]
  rw [digL_num (by omega),digL_num (by omega)]
  exact .inl (.inr (.inl ⟨d1,by omega,by omega⟩))
 ·have w1:=cut_two wNeed (numL da.toNat) (by decide) (n3 _)
  simp only [candL,w1]
  simp only [List.length_cons,List.length_nil,List.getD_cons_succ,List.getD_cons_zero,Nat.zero_add,Nat.reduceAdd,if_true,List.mem_append,List.mem_cons,DV.mk.injEq]
  rw [digL_num (by omega)]
  exact .inr (.inl ⟨d1,by omega,d3⟩)
 ·have w1:=cut_two wLater (numL da.toNat) (by decide) (n3 _)
  simp only [candL,w1]
  simp only [List.length_cons,List.length_nil,List.getD_cons_succ,List.getD_cons_zero,Nat.zero_add,Nat.reduceAdd,if_true,List.mem_append,List.mem_cons,DV.mk.injEq]
  rw [digL_num (by omega)]
  exact .inr (.inr (.inl ⟨d1,by omega,d3⟩))
 ·obtain ⟨rfl,rfl,rfl⟩:=d1
  simp [candL]
 ·obtain ⟨rfl,rfl,rfl⟩:=d1
  simp [candL]
theorem read_text {s:List UInt8} {d:DV} (h:readD s=some d):deedL d=s∧s≠[]:=by
 have:=List.find?_some h
 simp only [Bool.and_eq_true,decide_eq_true_eq] at this
 exact ⟨this.2,this.1⟩
theorem deed_read (d:DV) (hne:deedL d≠[]):readD (deedL d)=some d:=by
 cases h:readD (deedL d) with
 | some c=>rw [deed_inj (read_text h).1 hne]
 | none =>
  have:=List.find?_eq_none.1 h d (deed_cand d hne)
  simp [hne] at this
end
section
structure KV where
 now:List (Int×Int)
 past:List (List (Int×Int))
def noK:KV:=⟨[],[]⟩
def deskOk (D:KV):Bool:=D.past.all cOk && (cOk D.now && decide (D.past.length<=8))
theorem deskOk_parts {D:KV} (h:deskOk D=true):(∀ L ∈ D.past,cOk L=true)∧cOk D.now=true∧D.past.length<=8:=by
 simp only [deskOk,Bool.and_eq_true,decide_eq_true_eq,List.all_eq_true] at h
 exact ⟨h.1,h.2.1,h.2.2⟩
theorem deskOk_of {D:KV} (h1:∀ L ∈ D.past,cOk L=true) (h2:cOk D.now=true) (h3:D.past.length<=8):deskOk D=true:=by
 simp only [deskOk,Bool.and_eq_true,decide_eq_true_eq,List.all_eq_true]
 exact ⟨h1,h2,h3⟩
def madeV (L:List (Int×Int)) (d:DV):List (Int×Int)×Bool :=
 if d.k=0 then (L++[(d.a,d.b)],cOk (L++[(d.a,d.b)]))
 else if d=⟨1,0,0⟩∧0 < L.length then (L.take (L.length - 1),true)
 else if d.k=2∧d.b=0 then (moreR L d.a,moreOk L d.a)
 else if d.k=3∧d.b=0∧0 < d.a∧0 < L.length then (laterR L d.a,laterOk L d.a)
 else (L,false)
theorem made_ok {L:List (Int×Int)} {d:DV} (h:cOk L=true) (hm:(madeV L d).2=true):cOk (madeV L d).1=true:=by
 unfold madeV at hm ⊢
 split at hm <;> rename_i h0
 ·rw [if_pos h0];exact hm
 ·rw [if_neg h0]
  split at hm <;> rename_i h1
  ·rw [if_pos h1];exact cOk_take h (by omega)
  ·rw [if_neg h1]
   split at hm <;> rename_i h2
   ·rw [if_pos h2]
    simp only at hm ⊢
    rw [moreR_yes hm]
    simp only [moreOk,Bool.and_eq_true] at hm
    exact hm.2
   ·rw [if_neg h2]
    split at hm <;> rename_i h3
    ·rw [if_pos h3]
     simp only at hm ⊢
     rw [laterR_yes hm]
     exact (laterOk_parts hm).2.2
    ·cases hm
def pushP (P:List (List (Int×Int))) (L:List (Int×Int)):List (List (Int×Int)):=if 8 < P.length+1 then (P++[L]).drop 1 else P++[L]
theorem pushP_len {P:List (List (Int×Int))} (L:List (Int×Int)) (h:P.length<=8):(pushP P L).length<=8:=by
 unfold pushP;split <;> simp <;> omega
theorem pushP_mem {P:List (List (Int×Int))} {L M:List (Int×Int)} (h:M ∈ pushP P L):M ∈ P∨M=L:=by
 unfold pushP at h
 split at h
 ·have:=List.mem_of_mem_drop h
  simpa using this
 ·simpa using h
def deskDo (D:KV) (d:DV):KV×Bool :=
 if deskOk D=true then
  if d=⟨4,0,0⟩∧0 < D.past.length then (⟨D.past.getD (D.past.length - 1) [],D.past.take (D.past.length - 1)⟩,true)
  else if (madeV D.now d).2=true then (⟨(madeV D.now d).1,pushP D.past D.now⟩,true)
  else (D,false)
 else (noK,false)
theorem deskDo_ok {D:KV} {d:DV} (h:deskOk D=true):deskOk (deskDo D d).1=true:=by
 obtain ⟨h1,h2,h3⟩:=deskOk_parts h
 unfold deskDo
 rw [if_pos h]
 split <;> rename_i hb
 ·refine deskOk_of (fun L hL=>h1 L (List.mem_of_mem_take hL)) ?_ (by simp;omega)
  simp only [List.getD_eq_getElem?_getD,List.getElem?_eq_getElem (show D.past.length - 1 < D.past.length by omega),Option.getD_some]
  exact h1 _ (List.getElem_mem _)
 ·split <;> rename_i hm
  ·refine deskOk_of (fun L hL=>?_) (made_ok h2 hm) (pushP_len _ h3)
   rcases pushP_mem hL with hL | rfl
   ·exact h1 L hL
   ·exact h2
  ·exact h
end
section
def LL (Ls:List (List (Int×Int))) (k:Nat):List (Int×Int):=Ls.getD k []
theorem LL_get {Ls:List (List (Int×Int))} {k:Nat} (h:k < Ls.length):LL Ls k=Ls[k]:=by simp [LL,h]
def Css (w:World) (B:Nat) (A:Option Addr) (Ls:List (List (Int×Int))):Prop :=
 0 < Ls.length->∃ b off,A=some ⟨b,off,none⟩∧b < B∧∀ k,k < Ls.length->∃ Ak ck,w.cell? ⟨b,off+k,none⟩=some (.slice Ak (LL Ls k).length ck)∧(LL Ls k).length<=ck∧Cs w B Ak (LL Ls k)
theorem Css.below {w w':World} {B:Nat} {A:Option Addr} {Ls:List (List (Int×Int))} (h:Css w B A Ls) (hb:Below B w w'):Css w' B A Ls:=by
 intro hn
 obtain ⟨b,off,rfl,hlt,hc⟩:=h hn
 refine ⟨b,off,rfl,hlt,fun k hk=>?_⟩
 obtain ⟨Ak,ck,h1,h2,h3⟩:=hc k hk
 exact ⟨Ak,ck,(hb.cell (p:=⟨b,_,none⟩) hlt).trans h1,h2,h3.below hb⟩
theorem Css.more {w:World} {B B':Nat} {A:Option Addr} {Ls:List (List (Int×Int))} (h:Css w B A Ls) (hb:B<=B'):Css w B' A Ls:=by
 intro hn
 obtain ⟨b,off,rfl,hlt,hc⟩:=h hn
 refine ⟨b,off,rfl,by omega,fun k hk=>?_⟩
 obtain ⟨Ak,ck,h1,h2,h3⟩:=hc k hk
 exact ⟨Ak,ck,h1,h2,h3.more hb⟩
theorem Css.nil (w:World) (B:Nat) (A:Option Addr):Css w B A []:=fun h=>by simp at h
structure PL (w:World) (base:Nat) (v:Value) (Ls:List (List (Int×Int))) (vs:List Value):Prop where
 row:(v=.slice none 0 0∧Ls=[])∨∃ g off c,v=.slice (some ⟨g,off,none⟩) Ls.length c∧Ls.length<=c∧c<=maxLen∧base<=g∧g < w.heap.size ∧
  (∀ k,k < Ls.length->w.cell? ⟨g,off+k,none⟩=some (vs.getD k undef))∧∀ j,j < c->(w.cell? ⟨g,off+j,none⟩).isSome=true∧w.frozen? ⟨g,off+j,none⟩=false
 len:vs.length=Ls.length
 inner:∀ k,k < Ls.length->CO w base (vs.getD k undef) (LL Ls k)
 apart:∀ k,k < Ls.length->∀ r,(vs.getD k undef).ownBlock=some r->v.ownBlock≠some r
 diff:∀ i j,i < Ls.length->j < Ls.length->i≠j->∀ r,(vs.getD i undef).ownBlock=some r->(vs.getD j undef).ownBlock≠some r
theorem PL.ofCOO {w:World} {base:Nat} {v:Value} {Ls:List (List (Int×Int))} {vs:List Value} (h:COO w base v Ls vs):PL w base v Ls vs:=by
 have hl:=owns_lt h.row
 refine ⟨?_,h.len,h.inner,h.apart,h.diff⟩
 rcases h.row.2 with ⟨rfl,h0⟩ | ⟨g,cap,cur,rfl,hg,hh,h1,h2,h3,h4⟩
 ·exact .inl ⟨rfl,List.length_eq_zero_iff.1 h0⟩
 ·obtain ⟨_,hc,hf⟩:=h.cells
  refine .inr ⟨g,0,cap,rfl,h1,h2,hg,hl g (by simp [Value.ownBlock]),fun k hk=>by rw [Nat.zero_add];exact hc k hk,fun j hj=>?_⟩
  rw [Nat.zero_add]
  refine ⟨?_,hf j⟩
  rw [cell_of_row w g j cur _ _ hh,Array.getElem?_eq_getElem (by omega)];rfl
theorem PL.base_lt {w:World} {base:Nat} {v:Value} {Ls:List (List (Int×Int))} {vs:List Value} (h:PL w base v Ls vs):∀ r,v.ownBlock=some r->base<=r∧r < w.heap.size:=by
 intro r hr
 rcases h.row with ⟨rfl,_⟩ | ⟨g,off,c,rfl,_,_,h3,h4,_⟩
 ·simp [Value.ownBlock] at hr
 ·have e:g=r:=by simpa [Value.ownBlock] using hr
  subst e
  exact ⟨h3,h4⟩
theorem PL.kept {w w':World} {base:Nat} {row:Option Nat} {v:Value} {Ls:List (List (Int×Int))} {vs:List Value} (h:PL w base v Ls vs) (hg:w.grownBy w' row) (hr:∀ r,v.ownBlock=some r->row≠some r)
  (hri:∀ k,k < Ls.length->∀ r,(vs.getD k undef).ownBlock=some r->row≠some r):PL w' base v Ls vs:=by
 refine ⟨?_,h.len,fun k hk=>(h.inner k hk).grownR' hg (hri k hk),h.apart,h.diff⟩
 rcases h.row with h0 | ⟨g,off,c,rfl,h1,h2,h3,h4,h5,h6⟩
 ·exact .inl h0
 ·have hb:∀ o,(w'.heap[(⟨g,o,none⟩:Addr).block]?)=w.heap[(⟨g,o,none⟩:Addr).block]?:=fun o=>hg.block g h4 fun e=>hr g (by simp [Value.ownBlock]) e.symm
  exact .inr ⟨g,off,c,rfl,h1,h2,h3,Nat.lt_of_lt_of_le h4 hg.size,fun j hj=>(World.cell?_of_block (hb _)).trans (h5 j hj),fun j hj=>by
   have:=h6 j hj
   rw [World.cell?_of_block (hb _),World.frozen?_of_block (hb _)]
   exact this⟩
theorem PL.below {w w':World} {base B:Nat} {v:Value} {Ls:List (List (Int×Int))} {vs:List Value} (h:PL w base v Ls vs) (hb:Below B w w') (hB:w.heap.size<=B):PL w' base v Ls vs :=
 h.kept (row:=none) ⟨hb.os,hb.tape,hb.output,hb.size,fun k hk _=>hb.block k (by omega)⟩ (fun _ _ e=>by cases e) (fun _ _ _ _ e=>by cases e)
theorem PL.mono {w:World} {base base':Nat} {v:Value} {Ls:List (List (Int×Int))} {vs:List Value} (h:PL w base v Ls vs) (hB:base'<=base):PL w base' v Ls vs:=by
 refine ⟨?_,h.len,fun k hk=>(h.inner k hk).mono hB,h.apart,h.diff⟩
 rcases h.row with h0 | ⟨g,off,c,rfl,h1,h2,h3,h4,h5,h6⟩
 ·exact .inl h0
 ·exact .inr ⟨g,off,c,rfl,h1,h2,by omega,h4,h5,h6⟩
theorem PL.nil (w:World) (base:Nat):PL w base (.slice none 0 0) [] []:=⟨.inl ⟨rfl,rfl⟩,rfl,fun k h=>by simp at h,fun k h=>by simp at h,fun i j h=>by simp at h⟩
theorem PL.css {w:World} {base n c:Nat} {A:Option Addr} {Ls:List (List (Int×Int))} {vs:List Value} (h:PL w base (.slice A n c) Ls vs):n=Ls.length∧Ls.length<=c∧Css w w.heap.size A Ls:=by
 rcases h.row with ⟨e,h0⟩ | ⟨g,off,c',e,h1,h2,h3,h4,h5,h6⟩
 ·injection e with e1 e2 e3
  subst h0 e2 e3
  exact ⟨rfl,Nat.le_refl _,Css.nil _ _ _⟩
 ·injection e with e1 e2 e3
  subst e1 e2 e3
  refine ⟨rfl,h1,fun _=>⟨g,off,rfl,h4,fun k hk=>?_⟩⟩
  obtain ⟨Ak,ck,e,hc1,_,hcs⟩:=(h.inner k hk).form
  exact ⟨Ak,ck,by rw [h5 k hk,e],hc1,hcs⟩
theorem PL.cutLast {w:World} {base g off n c:Nat} {Ls:List (List (Int×Int))} {vs:List Value} (h:PL w base (.slice (some ⟨g,off,none⟩) n c) Ls vs) (hn:0 < Ls.length) :
  PL w base (.slice (some ⟨g,off,none⟩) (Ls.length - 1) c) (Ls.take (Ls.length - 1)) (vs.take (Ls.length - 1)):=by
 have hlt:∀ k,k < (Ls.take (Ls.length - 1)).length->k < Ls.length - 1∧(vs.take (Ls.length - 1)).getD k undef=vs.getD k undef∧LL (Ls.take (Ls.length - 1)) k=LL Ls k:=by
  intro k hk
  rw [List.length_take] at hk
  refine ⟨by omega,?_,?_⟩ <;> simp [LL,List.getD_eq_getElem?_getD,List.getElem?_take_of_lt (show k < Ls.length - 1 by omega)]
 refine ⟨?_,by have:=h.len;simp;omega,fun k hk=>?_,fun k hk r hr=>?_,fun i j hi hj hij r hr=>?_⟩
 ·rcases h.row with ⟨e,_⟩ | ⟨g',off',c',e,h1,h2,h3,h4,h5,h6⟩
  ·injection e with e1;cases e1
  ·injection e with e1 e2 e3
   injection e1 with e1
   injection e1 with e1 e4 _
   subst e1 e2 e3 e4
   refine .inr ⟨g,off,c,by rw [List.length_take,Nat.min_eq_left (by omega)],by rw [List.length_take];omega,h2,h3,h4,fun k hk=>?_,h6⟩
   rw [(hlt k hk).2.1];exact h5 k (by have:=(hlt k hk).1;omega)
 ·rw [(hlt k hk).2.1,(hlt k hk).2.2];exact h.inner k (by have:=(hlt k hk).1;omega)
 ·rw [(hlt k hk).2.1] at hr
  exact h.apart k (by have:=(hlt k hk).1;omega) r hr
 ·rw [(hlt i hi).2.1] at hr
  rw [(hlt j hj).2.1]
  exact h.diff i j (by have:=(hlt i hi).1;omega) (by have:=(hlt j hj).1;omega) hij r hr
theorem PL.cutHead {w:World} {base g off n c:Nat} {Ls:List (List (Int×Int))} {vs:List Value} (h:PL w base (.slice (some ⟨g,off,none⟩) n c) Ls vs) (hn:1 < Ls.length) :
  PL w base (.slice (some ⟨g,off+1,none⟩) (Ls.length - 1) (c - 1)) (Ls.drop 1) (vs.drop 1):=by
 have hlt:∀ k,k < (Ls.drop 1).length->k+1 < Ls.length∧(vs.drop 1).getD k undef=vs.getD (k+1) undef∧LL (Ls.drop 1) k=LL Ls (k+1):=by
  intro k hk
  rw [List.length_drop] at hk
  refine ⟨by omega,?_,?_⟩ <;> simp [LL,List.getD_eq_getElem?_getD]
 refine ⟨?_,by have:=h.len;simp;omega,fun k hk=>?_,fun k hk r hr=>?_,fun i j hi hj hij r hr=>?_⟩
 ·rcases h.row with ⟨e,_⟩ | ⟨g',off',c',e,h1,h2,h3,h4,h5,h6⟩
  ·injection e with e1;cases e1
  ·injection e with e1 e2 e3
   injection e1 with e1
   injection e1 with e1 e4 _
   subst e1 e2 e3 e4
   refine .inr ⟨g,off+1,c - 1,by rw [List.length_drop],by rw [List.length_drop];omega,by omega,h3,h4,fun k hk=>?_,fun j hj=>?_⟩
   ·rw [(hlt k hk).2.1,show off+1+k=off+(k+1) by omega];exact h5 (k+1) (hlt k hk).1
   ·rw [show off+1+j=off+(j+1) by omega];exact h6 (j+1) (by omega)
 ·rw [(hlt k hk).2.1,(hlt k hk).2.2];exact h.inner (k+1) (hlt k hk).1
 ·rw [(hlt k hk).2.1] at hr
  have:=h.apart (k+1) (hlt k hk).1 r hr
  simpa [Value.ownBlock] using this
 ·rw [(hlt i hi).2.1] at hr
  rw [(hlt j hj).2.1]
  exact h.diff (i+1) (j+1) (hlt i hi).1 (hlt j hj).1 (by omega) r hr
structure KO (w:World) (base:Nat) (vn vp:Value) (D:KV) (vs:List Value):Prop where
 now:CO w base vn D.now
 past:PL w base vp D.past vs
 apn:∀ r,vn.ownBlock=some r->vp.ownBlock≠some r
 api:∀ k,k < D.past.length->∀ r,(vs.getD k undef).ownBlock=some r->vn.ownBlock≠some r
theorem KO.below {w w':World} {base B:Nat} {vn vp:Value} {D:KV} {vs:List Value} (h:KO w base vn vp D vs) (hb:Below B w w') (hB:w.heap.size<=B):KO w' base vn vp D vs:=⟨h.now.below hb hB,h.past.below hb hB,h.apn,h.api⟩
theorem KO.mono {w:World} {base base':Nat} {vn vp:Value} {D:KV} {vs:List Value} (h:KO w base vn vp D vs) (hB:base'<=base):KO w base' vn vp D vs:=⟨h.now.mono hB,h.past.mono hB,h.apn,h.api⟩
theorem KO.zero (w:World) (base:Nat):KO w base (.slice none 0 0) (.slice none 0 0) noK []:=⟨CO.nil _ _,PL.nil _ _,fun r h=>by simp [Value.ownBlock] at h,fun k h=>by simp [noK] at h⟩
structure Ks (w:World) (B:Nat) (vn vp:Value) (D:KV):Prop where
 now:∃ A c,vn=.slice A D.now.length c∧D.now.length<=c∧Cs w B A D.now
 past:∃ A c,vp=.slice A D.past.length c∧D.past.length<=c∧Css w B A D.past
theorem Ks.below {w w':World} {B:Nat} {vn vp:Value} {D:KV} (h:Ks w B vn vp D) (hb:Below B w w'):Ks w' B vn vp D:=by
 obtain ⟨⟨A,c,e1,e2,e3⟩,A',c',e4,e5,e6⟩:=h
 exact ⟨⟨A,c,e1,e2,e3.below hb⟩,A',c',e4,e5,e6.below hb⟩
theorem Ks.more {w:World} {B B':Nat} {vn vp:Value} {D:KV} (h:Ks w B vn vp D) (hb:B<=B'):Ks w B' vn vp D:=by
 obtain ⟨⟨A,c,e1,e2,e3⟩,A',c',e4,e5,e6⟩:=h
 exact ⟨⟨A,c,e1,e2,e3.more hb⟩,A',c',e4,e5,e6.more hb⟩
theorem KO.ks {w:World} {base:Nat} {vn vp:Value} {D:KV} {vs:List Value} (h:KO w base vn vp D vs):Ks w w.heap.size vn vp D:=by
 obtain ⟨A,c,e,hc,_,hcs⟩:=h.now.form
 refine ⟨⟨A,c,e,hc,hcs⟩,?_⟩
 have hp:=h.past
 rcases hp.row with ⟨rfl,h0⟩ | ⟨g,off,c',rfl,h1,h2,h3,h4,h5,h6⟩
 ·exact ⟨none,0,by rw [h0];rfl,by rw [h0];simp,by rw [h0];exact Css.nil _ _ _⟩
 ·exact ⟨_,c',rfl,h1,hp.css.2.2⟩
end
end Go.Proofs.YthpccmkagikhjaaGreatDoor

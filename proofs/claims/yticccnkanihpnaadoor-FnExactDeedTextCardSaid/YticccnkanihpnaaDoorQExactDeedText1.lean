import Derived.WalkKit
import Derived.Deep.QuietTactic
import Derived.BigQuiet
import Derived.WalkSpells
import Derived.Lib.Hide
import Derived.Test.YticccnkanihpnaaDoorProg
import Derived.Deep.RegionHeld3
import Derived.Deep.AppendLies
import Derived.Deep.DrawnRows
import Derived.StillTail
import Derived.Deep.Quiet
import Derived.ArgAppend
import Derived.Laws.IdiomCopy
import Derived.Deep.Upon
import Derived.OwnWalk
import Derived.Deep.RegionLaw
import Derived.Laws.IdiomStrings
import Derived.Laws.BytesString
import Derived.Laws.Concat
import Derived.Lib.LaidTab
import Derived.Lib.ItoaNum
import Derived.Below
namespace Go.Proofs.YticccnkanihpnaaDoor
set_option linter.unusedVariables false
open Go.RowKit
def X (L:List (Int×Int)) (k:Nat):Int:=(L.getD k (0,0)).1
def Y (L:List (Int×Int)) (k:Nat):Int:=(L.getD k (0,0)).2
def prevOf (L:List (Int×Int)) (k:Nat):Int:=if k=0 then 0 else X L (k - 1)
def Cells (w:World) (b off:Nat) (L:List (Int×Int)):Prop :=
 ∀ k,k < L.length->w.cell? ⟨b,off+k * 2,none⟩=some (.int .i64 (X L k))∧w.cell? ⟨b,off+k * 2+1,none⟩=some (.int .i64 (Y L k))
def Cs (w:World) (B:Nat) (A:Option Addr) (L:List (Int×Int)):Prop :=
 0 < L.length->∃ b off,A=some ⟨b,off,none⟩∧b < B∧Cells w b off L
theorem Cs.below {w w':World} {B:Nat} {A:Option Addr} {L:List (Int×Int)} (h:Cs w B A L) (hb:Below B w w'):Cs w' B A L:=by
 intro hn
 obtain ⟨b,off,rfl,hlt,hc⟩:=h hn
 exact ⟨b,off,rfl,hlt,fun k hk=>⟨(hb.cell (p:=⟨b,_,none⟩) hlt).trans (hc k hk).1,(hb.cell (p:=⟨b,_,none⟩) hlt).trans (hc k hk).2⟩⟩
theorem Cs.more {w:World} {B B':Nat} {A:Option Addr} {L:List (Int×Int)} (h:Cs w B A L) (hb:B<=B'):Cs w B' A L:=by
 intro hn
 obtain ⟨b,off,rfl,hlt,hc⟩:=h hn
 exact ⟨b,off,rfl,by omega,hc⟩
theorem Below.drewN {B:Nat} {a w:World} (h:Below B a w) (n:Nat):Below B a (w.drewN n):=⟨h.os,h.tape,h.output,h.size,h.block⟩
end Go.Proofs.YticccnkanihpnaaDoor
namespace Go.Proofs.YticccnkanihpnaaDoor
set_option linter.unusedVariables false
open Go.RowKit
end Go.Proofs.YticccnkanihpnaaDoor
namespace Go.Proofs.YticccnkanihpnaaDoor
set_option linter.unusedVariables false
open Go.RowKit
end Go.Proofs.YticccnkanihpnaaDoor
namespace Go.Proofs.YticccnkanihpnaaDoor
set_option linter.unusedVariables false
open Go.RowKit
end Go.Proofs.YticccnkanihpnaaDoor
namespace Go.Proofs.YticccnkanihpnaaDoor
set_option linter.unusedVariables false
open Go.RowKit
end Go.Proofs.YticccnkanihpnaaDoor
namespace Go.Proofs.YticccnkanihpnaaDoor
set_option linter.unusedVariables false
open Go.RowKit
def waitAt (L:List (Int×Int)):Nat->Int
 | 0=>0
 | k+1=>max (waitAt L k+Y L k - (X L (k+1) - X L k)) 0
def waitsTo (L:List (Int×Int)) (k:Nat):List Int:=(List.range k).map (waitAt L)
end Go.Proofs.YticccnkanihpnaaDoor
namespace Go.Proofs.YticccnkanihpnaaDoor
set_option linter.unusedVariables false
open Go.RowKit
end Go.Proofs.YticccnkanihpnaaDoor
namespace Go.Proofs.YticccnkanihpnaaDoor
set_option linter.unusedVariables false
open Go.RowKit
end Go.Proofs.YticccnkanihpnaaDoor
namespace Go.Proofs.YticccnkanihpnaaDoor
set_option linter.unusedVariables false
open Go.RowKit
def placesTo (L:List (Int×Int)) (b e:Int):Nat->List Int
 | 0=>[]
 | j+1=>if b<=X L j∧X L j<=e - 1 then placesTo L b e j++[(j:Int)] else placesTo L b e j
def places (L:List (Int×Int)) (b e:Int):List Int:=placesTo L b e L.length
section
variable {L:List (Int×Int)} {t:Nat} {B:List (Int×Int)}
end
end Go.Proofs.YticccnkanihpnaaDoor
namespace Go.Proofs.YticccnkanihpnaaDoor
set_option linter.unusedVariables false
open Go.RowKit
set_option maxHeartbeats 400000 in
theorem c_within (a b c:Int) (w:World) :
  Calls Tryd.prog 35 #[.int .i64 a,.int .i64 b,.int .i64 c] w fun e w'=>e=.returned (.bool (decide (b<=a∧a<=c)))∧w=w':=by
 by_cases h1:b<=a
 ·by_cases h2:a<=c
  all_goals
   go_enter Tryd.func35,Tryd.ntmps35
   go_wp2
   go_ret
   exact ⟨by simp [h1,h2],rfl⟩
 ·go_enter Tryd.func35,Tryd.ntmps35
  go_wp2
  go_ret
  exact ⟨by simp;omega,rfl⟩
end Go.Proofs.YticccnkanihpnaaDoor
namespace Go.Proofs.YticccnkanihpnaaDoor
set_option linter.unusedVariables false
open Go.RowKit
set_option maxHeartbeats 400000 in
theorem c_l1In (a b c:Int) (w:World) :
  Calls Tryd.prog 37 #[.int .i64 a,.int .i64 b,.int .i64 c] w fun e w'=>e=.returned (.bool (decide (b<=a∧a<=c)))∧w'=w:=by
 by_cases h1:b<=a
 ·by_cases h2:a<=c
  all_goals
   go_enter Tryd.func37,Tryd.ntmps37
   go_wp2
   go_ret
   exact ⟨by simp [h1,h2],rfl⟩
 ·go_enter Tryd.func37,Tryd.ntmps37
  go_wp2
  go_ret
  exact ⟨by simp;omega,rfl⟩
end Go.Proofs.YticccnkanihpnaaDoor
namespace Go.Proofs.YticccnkanihpnaaDoor
set_option linter.unusedVariables false
open Go.RowKit
def Z (xs:List Int) (k:Nat):Int:=xs.getD k 0
def Is (w:World) (B:Nat) (A:Option Addr) (xs:List Int):Prop :=
 0 < xs.length->∃ b off,A=some ⟨b,off,none⟩∧b < B∧∀ k,k < xs.length->w.cell? ⟨b,off+k,none⟩=some (.int .i64 (Z xs k))
theorem Is.below {w w':World} {B:Nat} {A:Option Addr} {xs:List Int} (h:Is w B A xs) (hb:Below B w w'):Is w' B A xs:=by
 intro hn
 obtain ⟨b,off,rfl,hlt,hc⟩:=h hn
 exact ⟨b,off,rfl,hlt,fun k hk=>(hb.cell (p:=⟨b,_,none⟩) hlt).trans (hc k hk)⟩
theorem Is.more {w:World} {B B':Nat} {A:Option Addr} {xs:List Int} (h:Is w B A xs) (hb:B<=B'):Is w B' A xs:=by
 intro hn
 obtain ⟨b,off,rfl,hlt,hc⟩:=h hn
 exact ⟨b,off,rfl,by omega,hc⟩
def IO (w:World) (base:Nat) (v:Value) (xs:List Int):Prop:=w.ownsRow base 3 1 v xs.length (xs.map (Value.int .i64))
def flatC (L:List (Int×Int)):List Value:=L.flatMap fun c=>[.int .i64 c.1,.int .i64 c.2]
def CO (w:World) (base:Nat) (v:Value) (L:List (Int×Int)):Prop:=w.ownsRow base 63 2 v L.length (flatC L)
theorem flatC_len (L:List (Int×Int)):(flatC L).length=L.length * 2:=by
 induction L with
 | nil=>rfl
 | cons c L ih=>simp [flatC] at ih ⊢;omega
theorem flatC_at (L:List (Int×Int)):∀ k,k < L.length->(flatC L)[k * 2]?=some (.int .i64 (X L k))∧(flatC L)[k * 2+1]?=some (.int .i64 (Y L k)):=by
 induction L with
 | nil=>intro k hk;simp at hk
 | cons c L ih =>
  intro k hk
  cases k with
  | zero=>exact ⟨rfl,rfl⟩
  | succ k =>
   have:=ih k (by simpa using hk)
   have e1:(k+1) * 2=k * 2+1+1:=by omega
   simp only [flatC,List.flatMap_cons,e1,List.cons_append,List.nil_append,List.getElem?_cons_succ,X,Y,List.getD_cons_succ] at this ⊢
   exact this
theorem owns_lt {w:World} {base:Nat} {e:TypeId} {size:Nat} {v:Value} {n:Nat} {xs:List Value} (h:w.ownsRow base e size v n xs):∀ k,v.ownBlock=some k->k < w.heap.size:=by
 intro k hk
 rcases h.2 with ⟨rfl,_⟩ | ⟨g,cap,cur,rfl,hg,hh,_⟩
 ·simp [Value.ownBlock] at hk
 ·simp [Value.ownBlock] at hk;subst hk
  rcases Nat.lt_or_ge g w.heap.size with h | h
  ·exact h
  ·rw [Array.getElem?_eq_none h] at hh;cases hh
theorem owns_below {w w':World} {base:Nat} {e:TypeId} {size:Nat} {v:Value} {n:Nat} {xs:List Value} (h:w.ownsRow base e size v n xs) {B:Nat} (hb:Below B w w') (hB:w.heap.size<=B):w'.ownsRow base e size v n xs:=by
 refine ⟨h.1,?_⟩
 have hl:=owns_lt h
 rcases h.2 with h2 | ⟨g,cap,cur,rfl,hg,hh,r⟩
 ·exact .inl h2
 ·have:=hl g (by simp [Value.ownBlock])
  exact .inr ⟨g,cap,cur,rfl,hg,by rw [hb.block g (by omega)];exact hh,r⟩
theorem owns_mono {w:World} {base base':Nat} {e:TypeId} {size:Nat} {v:Value} {n:Nat} {xs:List Value} (h:w.ownsRow base e size v n xs) (hB:base'<=base):w.ownsRow base' e size v n xs:=by
 refine ⟨h.1,?_⟩
 rcases h.2 with h2 | ⟨g,cap,cur,rfl,hg,r⟩
 ·exact .inl h2
 ·exact .inr ⟨g,cap,cur,rfl,by omega,r⟩
theorem IO.below {w w':World} {base B:Nat} {v:Value} {xs:List Int} (h:IO w base v xs) (hb:Below B w w') (hB:w.heap.size<=B):IO w' base v xs:=owns_below h hb hB
theorem CO.below {w w':World} {base B:Nat} {v:Value} {xs:List (Int×Int)} (h:CO w base v xs) (hb:Below B w w') (hB:w.heap.size<=B):CO w' base v xs:=owns_below h hb hB
theorem IO.mono {w:World} {base base':Nat} {v:Value} {xs:List Int} (h:IO w base v xs) (hB:base'<=base):IO w base' v xs:=owns_mono h hB
theorem CO.mono {w:World} {base base':Nat} {v:Value} {xs:List (Int×Int)} (h:CO w base v xs) (hB:base'<=base):CO w base' v xs:=owns_mono h hB
theorem CO.cells {w:World} {base g n c:Nat} {M:List (Int×Int)} (h:CO w base (.slice (some ⟨g,0,none⟩) n c) M) :
  n=M.length∧(∀ k,k < n->w.cell? ⟨g,k * 2,none⟩=some (.int .i64 (X M k))∧w.cell? ⟨g,k * 2+1,none⟩=some (.int .i64 (Y M k)))∧∀ j,w.frozen? ⟨g,j,none⟩=false:=by
 have hn:n=M.length:=by
  rcases h.2 with ⟨h2,_⟩ | ⟨g',cap,cur,h2,_⟩
  ·cases h2
  ·injection h2
 subst hn
 refine ⟨rfl,fun k hk=>?_,fun j=>World.ownsRow.frozenAt h j⟩
 have:=flatC_at M k hk
 exact ⟨(World.ownsRow.cellAt h (k * 2) (by omega)).trans this.1,(World.ownsRow.cellAt h (k * 2+1) (by omega)).trans this.2⟩
theorem IO.cells {w:World} {base g n c:Nat} {M:List Int} (h:IO w base (.slice (some ⟨g,0,none⟩) n c) M) :
  n=M.length∧(∀ k,k < n->w.cell? ⟨g,k,none⟩=some (.int .i64 (Z M k)))∧∀ j,w.frozen? ⟨g,j,none⟩=false:=by
 have hn:n=M.length:=by
  rcases h.2 with ⟨h2,_⟩ | ⟨g',cap,cur,h2,_⟩
  ·cases h2
  ·injection h2
 subst hn
 refine ⟨rfl,fun k hk=>?_,fun j=>World.ownsRow.frozenAt h j⟩
 rw [World.ownsRow.cellAt h k (by omega)]
 simp [Z,hk]
theorem IO.alloc {w:World} {base:Nat} {v:Value} {xs:List Int} (h:IO w base v xs) (o:Obj):IO (w.alloc o) base v xs:=World.ownsRow.alloc h o
theorem IO.drew {w:World} {base:Nat} {v:Value} {xs:List Int} (h:IO w base v xs):IO w.drew base v xs:=h
theorem CO.alloc {w:World} {base:Nat} {v:Value} {xs:List (Int×Int)} (h:CO w base v xs) (o:Obj):CO (w.alloc o) base v xs:=World.ownsRow.alloc h o
theorem CO.drew {w:World} {base:Nat} {v:Value} {xs:List (Int×Int)} (h:CO w base v xs):CO w.drew base v xs:=h
section
variable {w:World}
end
end Go.Proofs.YticccnkanihpnaaDoor
namespace Go.Proofs.YticccnkanihpnaaDoor
set_option linter.unusedVariables false
open Go.RowKit
structure WB (B:Nat) (w:World) where
 val:World
 below:Below B w val
instance (B:Nat) (w:World):Nonempty (WB B w):=⟨⟨w,Below.refl _ _⟩⟩
theorem wp_region_wb {P:Program} {id:Nat} {Q:Exit->Act->World->Prop} {a:Act} {w:World} {l:List Oper} (B:Nat) (hm:P.follows .mixedOrders=true) (hB:Region.lexB .any l.toArray=true)
  (h:wpQuiet P l.toArray (fun w'=>∃ s:WB B w,w'=s.val) (fun a'=>∀ w',(∃ s:WB B w,w'=s.val)->Q .normal a' w') l a):(Code.region id l.toArray true).wp P Q a w :=
 wp_region_quiet (C:=fun w'=>∃ s:WB B w,w'=s.val) hm hB ⟨⟨w.drew,(Below.refl _ _).drew⟩,rfl⟩ (by simpa using h)
theorem Calls.inB {P:Program} {f:FuncId} {args:Array Value} {B:Nat} {w:World} {s:WB B w} {v:Value} (hB:B<=w.heap.size)
  (h:Calls P f args s.val fun e w'=>e=.returned v∧Below s.val.heap.size s.val w'):Calls P f args s.val fun e w''=>e=.returned v∧∃ s':WB B w,w''=s'.val :=
 h.mono fun _ w' ⟨he,hb⟩=>⟨he,⟨w',s.below.trans (hb.mono (Nat.le_trans hB s.below.size))⟩,rfl⟩
theorem WB.cell {B:Nat} {w:World} {b o:Nat} {v:Value} (hb:b < B) (h:w.cell? ⟨b,o,none⟩=some v):∀ s:WB B w,s.val.cell? ⟨b,o,none⟩=some v :=
 fun s=>(s.below.cell (p:=⟨b,o,none⟩) hb).trans h
end Go.Proofs.YticccnkanihpnaaDoor
namespace Go.Proofs.YticccnkanihpnaaDoor
set_option linter.unusedVariables false
open Go.RowKit
def HeadQ (P:Program) (md:Region.Mode) (ops:Array Oper) (C:World->Prop) (n:Nat) (L:Array Bool->Act->Prop):Nat->Array Bool->Act->Prop
 | 0,listed,a=>L listed a
 | f+1,listed,a=>Region.ready md ops listed≠[]∧∀ i ∈ Region.ready md ops listed,i < n∧qOp P ops C i (HeadQ P md ops C n L f (listed.setIfInBounds i true)) a
section
variable {P:Program} {ops:Array Oper} {md:Region.Mode} {C:World->Prop} {n g:Nat} {L:Array Bool->Act->Prop}
theorem HeadQ.any {Q:Exit->Act->World->Prop} (hL:∀ listed a w,C w->L listed a->wpAny P md ops Q g listed a w) :
  ∀ (f:Nat) (listed:Array Bool) (a:Act) (w:World),C w->HeadQ P md ops C n L f listed a->wpAny P md ops Q (f+g) listed a w:=by
 intro f
 induction f with
 | zero=>intro listed a w hw h;rw [Nat.zero_add];exact hL _ _ _ hw h
 | succ f ih =>
  intro listed a w hw h
  have e:f+1+g=(f+g)+1:=by omega
  rw [e]
  exact ⟨fun h0=>absurd h0 h.1,fun i hi=>wpOp_of_qOp hw (fun a' w' hw' h'=>ih _ a' w' hw' h') (h.2 i hi).2⟩
end
theorem IO.grownR' {w w':World} {base:Nat} {row:Option Nat} {v:Value} {L:List Int} (h:IO w base v L) (hg:w.grownBy w' row) (hr:∀ r,v.ownBlock=some r->row≠some r):IO w' base v L:=by
 refine ⟨h.1,?_⟩
 have hl:=owns_lt h
 rcases h.2 with h2 | ⟨g,cap,cur,rfl,hgb,hh,rest⟩
 ·exact .inl h2
 ·have:=hl g (by simp [Value.ownBlock])
  exact .inr ⟨g,cap,cur,rfl,hgb,by rw [hg.block g (by omega) (fun e=>hr g (by simp [Value.ownBlock]) (by rw [<- e]))];exact hh,rest⟩
def Sep (lo hi:Nat) (v:Value):Prop:=∀ r,v.ownBlock=some r->r=lo∨hi<=r
def Mid (lo hi:Nat) (w1 w:World):Prop:=∀ b,lo < b->b < hi->w.heap[b]?=w1.heap[b]?
theorem Mid.refl (lo hi:Nat) (w:World):Mid lo hi w w:=fun _ _ _=>rfl
theorem Mid.below {lo hi B:Nat} {w1 w w':World} (h:Mid lo hi w1 w) (hb:Below B w w') (hB:hi<=B):Mid lo hi w1 w':=fun b h1 h2=>(hb.block b (by omega)).trans (h b h1 h2)
theorem Mid.grown {lo hi:Nat} {w1 w w':World} {v:Value} (h:Mid lo hi w1 w) (hs:Sep lo hi v) (hg:w.grownBy w' v.ownBlock) (hB:hi<=w.heap.size):Mid lo hi w1 w':=fun b h1 h2 =>
 (hg.block b (by omega) (fun e=>by have:=hs b e.symm;omega)).trans (h b h1 h2)
theorem Mid.cell {lo hi:Nat} {w1 w:World} (h:Mid lo hi w1 w) {b o:Nat} (h1:lo < b) (h2:b < hi):w.cell? ⟨b,o,none⟩=w1.cell? ⟨b,o,none⟩:=World.cell?_of_block (h b h1 h2)
section
variable {w:World}
end
end Go.Proofs.YticccnkanihpnaaDoor
namespace Go.Proofs.YticccnkanihpnaaDoor
set_option linter.unusedVariables false
open Go.RowKit
section
variable {w:World}
end
end Go.Proofs.YticccnkanihpnaaDoor
namespace Go.Proofs.YticccnkanihpnaaDoor
set_option linter.unusedVariables false
open Go.RowKit
structure IOO (w:World) (base:Nat) (v:Value) (xss:List (List Int)) (vs:List Value):Prop where
 row:w.ownsRow base 57 1 v xss.length vs
 inner:∀ k,k < xss.length->IO w base (vs.getD k undef) (xss.getD k [])
 apart:∀ k,k < xss.length->∀ r,(vs.getD k undef).ownBlock=some r->v.ownBlock≠some r
 diff:∀ i j,i < xss.length->j < xss.length->i≠j->∀ r,(vs.getD i undef).ownBlock=some r->(vs.getD j undef).ownBlock≠some r
theorem IOO.len {w:World} {base:Nat} {v:Value} {xss:List (List Int)} {vs:List Value} (h:IOO w base v xss vs):vs.length=xss.length:=by
 have:=h.row.1
 omega
theorem IOO.below {w w':World} {base B:Nat} {v:Value} {xss:List (List Int)} {vs:List Value} (h:IOO w base v xss vs) (hb:Below B w w') (hB:w.heap.size<=B):IOO w' base v xss vs :=
 ⟨owns_below h.row hb hB,fun k hk=>(h.inner k hk).below hb hB,h.apart,h.diff⟩
theorem IOO.mono {w:World} {base base':Nat} {v:Value} {xss:List (List Int)} {vs:List Value} (h:IOO w base v xss vs) (hB:base'<=base):IOO w base' v xss vs :=
 ⟨owns_mono h.row hB,fun k hk=>(h.inner k hk).mono hB,h.apart,h.diff⟩
theorem IOO.cells {w:World} {base g n c:Nat} {xss:List (List Int)} {vs:List Value} (h:IOO w base (.slice (some ⟨g,0,none⟩) n c) xss vs) :
  n=xss.length∧(∀ k,k < n->w.cell? ⟨g,k,none⟩=some (vs.getD k undef))∧∀ j,w.frozen? ⟨g,j,none⟩=false:=by
 have hn:n=xss.length:=by
  rcases h.row.2 with ⟨h2,_⟩ | ⟨g',cap,cur,h2,_⟩
  ·cases h2
  ·injection h2
 subst hn
 refine ⟨rfl,fun k hk=>?_,fun j=>World.ownsRow.frozenAt h.row j⟩
 have:=h.len
 rw [World.ownsRow.cellAt h.row k (by omega)]
 simp [List.getD,List.getElem?_eq_getElem (show k < vs.length by omega)]
end Go.Proofs.YticccnkanihpnaaDoor
namespace Go.Proofs.YticccnkanihpnaaDoor
set_option linter.unusedVariables false
open Go.RowKit
def Bs (w:World) (B:Nat) (A:Option Addr) (n:Nat):Prop :=
 0 < n->∃ b off,A=some ⟨b,off,none⟩∧b < B∧∀ k,k < n->∃ y:Int,w.cell? ⟨b,off+k,none⟩=some (.int .u8 y)∧0<=y∧y<=255
theorem Bs.keep {w w':World} {B:Nat} {A:Option Addr} {n:Nat} (h:Bs w B A n) (hb:∀ k,k < B->w'.heap[k]?=w.heap[k]?):Bs w' B A n:=by
 intro hn
 obtain ⟨b,off,rfl,hlt,hc⟩:=h hn
 refine ⟨b,off,rfl,hlt,fun k hk=>?_⟩
 obtain ⟨y,h1,h2⟩:=hc k hk
 exact ⟨y,(World.cell?_of_block (w:=w) (hb b hlt)).trans h1,h2⟩
def Rd (w:World) (base r p:Nat):Prop :=
 base<=r∧r < w.heap.size∧∃ A n c,n<=2000∧w.heap[r]?=some (.cells #[.slice A n c,.int .i64 p] 89 (0,0))∧Bs w base A n
theorem Rd.grown {w w':World} {base r p:Nat} (h:Rd w base r p) (hg:Below w.heap.size w w'):Rd w' base r p:=by
 obtain ⟨h1,h2,A,n,c,hn,hh,hb⟩:=h
 exact ⟨h1,Nat.lt_of_lt_of_le h2 hg.size,A,n,c,hn,(hg.block r h2).trans hh,hb.keep fun k hk=>hg.block k (by omega)⟩
end Go.Proofs.YticccnkanihpnaaDoor
namespace Go.Proofs.YticccnkanihpnaaDoor
set_option linter.unusedVariables false
open Go.RowKit
theorem Rd.keepB {w w':World} {base r p B:Nat} (h:Rd w base r p) (hg:Below B w w') (hr:r < B) (hb:base<=B):Rd w' base r p:=by
 obtain ⟨h1,h2,A,n,c,hn,hh,hb'⟩:=h
 exact ⟨h1,Nat.lt_of_lt_of_le h2 hg.size,A,n,c,hn,(hg.block r hr).trans hh,hb'.keep fun k hk=>hg.block k (by omega)⟩
theorem grown_thenB {w w1 w2:World} {r:Nat} (h:w.grownBy w1 (some r)) (hb:Below w.heap.size w1 w2):w.grownBy w2 (some r) :=
 ⟨hb.os.trans h.os,hb.tape.trans h.tape,hb.output.trans h.output,Nat.le_trans h.size hb.size,fun k hk hne=>(hb.block k hk).trans (h.block k hk hne)⟩
theorem CO.grown {w w':World} {base r:Nat} {v:Value} {L:List (Int×Int)} (h:CO w base v L) (hg:w.grownBy w' (some r)) (hr:r < base):CO w' base v L:=by
 refine ⟨h.1,?_⟩
 have hl:=owns_lt h
 rcases h.2 with h2 | ⟨g,cap,cur,rfl,hgb,hh,rest⟩
 ·exact .inl h2
 ·have:=hl g (by simp [Value.ownBlock])
  exact .inr ⟨g,cap,cur,rfl,hgb,by rw [hg.block g (by omega) (by simp;omega)];exact hh,rest⟩
theorem CO.lit {w:World} {base:Nat} (cs:Array Value) (L:List (Int×Int)) (n:Nat) (hb:base<=w.heap.size) (hm:n<=maxLen) (hl:L.length=n) (hs:cs.toList=flatC L) :
  CO (w.alloc (.cells cs 63)) base (.slice (some ⟨w.heap.size,0,none⟩) n n) L:=by
 subst hl
 have e:cs.size=L.length * 2:=by rw [<- Array.length_toList,hs,flatC_len]
 refine ⟨flatC_len L,.inr ⟨w.heap.size,L.length,cs,rfl,hb,heap_alloc_new _ _,Nat.le_refl _,hm,e,?_⟩⟩
 rw [hs,List.take_of_length_le (by rw [flatC_len];omega)]
end Go.Proofs.YticccnkanihpnaaDoor
namespace Go.Proofs.YticccnkanihpnaaDoor
set_option linter.unusedVariables false
open Go.RowKit
attribute [local go_sem ↓] Go.wp_at_zero Go.wp_at_succ
def wv (L:List (Int×Int)):Nat->Int
 | 0=>0
 | k+1=>waitAt L k
def ay (L:List (Int×Int)):Nat->Int
 | 0=>0
 | k+1=>Y L k
structure WInv (L:List (Int×Int)) (w:World) (B p q b:Nat) (k:Nat) (v:Value) (W:World):Prop where
 below:Below B w W
 hp:B<=p
 hpq:p < q
 hqb:q < b
 hb:b<=W.heap.size
 cp:W.heap[p]?=some (.cells #[.int .i64 (wv L k)] 3 (0,0))
 cq:W.heap[q]?=some (.cells #[.int .i64 (prevOf L k),.int .i64 (ay L k)] 63 (0,0))
 own:IO W b v (waitsTo L k)
theorem WInv.keep {L:List (Int×Int)} {w:World} {B p q b k:Nat} {v:Value} {W W':World} (h:WInv L w B p q b k v W) (hW:Below W.heap.size W W'):WInv L w B p q b k v W':=by
 obtain ⟨h1,h2,h3,h4,h5,h6,h7,h8⟩:=h
 have hs:=hW.size
 exact ⟨h1.trans (hW.mono (by omega)),h2,h3,h4,by omega,(hW.block p (by omega)).trans h6,(hW.block q (by omega)).trans h7,h8.below hW (Nat.le_refl _)⟩
end Go.Proofs.YticccnkanihpnaaDoor
namespace Go.Proofs.YticccnkanihpnaaDoor
set_option linter.unusedVariables false
open Go.RowKit
attribute [local go_sem ↓] Go.wp_at_zero Go.wp_at_succ
end Go.Proofs.YticccnkanihpnaaDoor
namespace Go.Proofs.YticccnkanihpnaaDoor
set_option linter.unusedVariables false
open Go.RowKit
theorem CO.grownR' {w w':World} {base:Nat} {row:Option Nat} {v:Value} {L:List (Int×Int)} (h:CO w base v L) (hg:w.grownBy w' row) (hr:∀ r,v.ownBlock=some r->row≠some r):CO w' base v L:=by
 have hl:=owns_lt h
 refine ⟨h.1,?_⟩
 rcases h.2 with h2 | ⟨g,cap,cur,rfl,hgb,hh,rest⟩
 ·exact .inl h2
 ·have:=hl g (by simp [Value.ownBlock])
  exact .inr ⟨g,cap,cur,rfl,hgb,by rw [hg.block g (by omega) (fun e=>hr g (by simp [Value.ownBlock]) e.symm)];exact hh,rest⟩
section
variable {w:World}
end
structure COO (w:World) (base:Nat) (v:Value) (xss:List (List (Int×Int))) (vs:List Value):Prop where
 row:w.ownsRow base 51 1 v xss.length vs
 inner:∀ k,k < xss.length->CO w base (vs.getD k undef) (xss.getD k [])
 apart:∀ k,k < xss.length->∀ r,(vs.getD k undef).ownBlock=some r->v.ownBlock≠some r
 diff:∀ i j,i < xss.length->j < xss.length->i≠j->∀ r,(vs.getD i undef).ownBlock=some r->(vs.getD j undef).ownBlock≠some r
theorem COO.len {w:World} {base:Nat} {v:Value} {xss:List (List (Int×Int))} {vs:List Value} (h:COO w base v xss vs):vs.length=xss.length:=by
 have:=h.row.1
 omega
theorem COO.below {w w':World} {base B:Nat} {v:Value} {xss:List (List (Int×Int))} {vs:List Value} (h:COO w base v xss vs) (hb:Below B w w') (hB:w.heap.size<=B):COO w' base v xss vs :=
 ⟨owns_below h.row hb hB,fun k hk=>(h.inner k hk).below hb hB,h.apart,h.diff⟩
theorem COO.mono {w:World} {base base':Nat} {v:Value} {xss:List (List (Int×Int))} {vs:List Value} (h:COO w base v xss vs) (hB:base'<=base):COO w base' v xss vs :=
 ⟨owns_mono h.row hB,fun k hk=>(h.inner k hk).mono hB,h.apart,h.diff⟩
theorem COO.cells {w:World} {base g n c:Nat} {xss:List (List (Int×Int))} {vs:List Value} (h:COO w base (.slice (some ⟨g,0,none⟩) n c) xss vs) :
  n=xss.length∧(∀ k,k < n->w.cell? ⟨g,k,none⟩=some (vs.getD k undef))∧∀ j,w.frozen? ⟨g,j,none⟩=false:=by
 have hn:n=xss.length:=by
  rcases h.row.2 with ⟨h2,_⟩ | ⟨g',cap,cur,h2,_⟩
  ·cases h2
  ·injection h2
 subst hn
 refine ⟨rfl,fun k hk=>?_,fun j=>World.ownsRow.frozenAt h.row j⟩
 have:=h.len
 rw [World.ownsRow.cellAt h.row k (by omega)]
 simp [List.getD,List.getElem?_eq_getElem (show k < vs.length by omega)]
end Go.Proofs.YticccnkanihpnaaDoor
namespace Go.Proofs.YticccnkanihpnaaDoor
set_option linter.unusedVariables false
open Go.RowKit
def dig8 (n:Nat):UInt8:=UInt8.ofNat (48+n % 10)
def numL (n:Nat):List UInt8:=if n < 10 then [dig8 n] else numL (n / 10)++[dig8 n]
termination_by n
theorem numL_one {n:Nat} (h:n < 10):numL n=[dig8 n]:=by rw [numL,if_pos h]
theorem numL_more {n:Nat} (h:¬ n < 10):numL n=numL (n / 10)++[dig8 n]:=by rw [numL,if_neg h]
theorem dig8_nat (n:Nat):(dig8 n).toNat=48+n % 10:=by
 have:n % 10 < 10:=Nat.mod_lt _ (by omega)
 simp [dig8,UInt8.toNat_ofNat'];omega
theorem numL_len:∀ (k n:Nat),n < 10 ^ (k+1)->(numL n).length<=k+1:=by
 intro k
 induction k with
 | zero=>intro n h;rw [numL_one (by simpa using h)];simp
 | succ k ih =>
  intro n h
  by_cases h1:n < 10
  ·rw [numL_one h1];simp
  ·rw [numL_more h1]
   have:=ih (n / 10) (by rw [Nat.pow_succ] at h;omega)
   simp;omega
structure DV where
 k:Int
 a:Int
 b:Int
deriving DecidableEq
def wCome:List UInt8:=[99,111,109,101]
def wNeed:List UInt8:=[110,101,101,100]
def wLater:List UInt8:=[108,97,116,101,114]
def wGo:List UInt8:=[103,111]
def wBack:List UInt8:=[98,97,99,107]
def deedL (d:DV):List UInt8 :=
 if d.k=0∧(0<=d.a∧d.a<=99)∧(0<=d.b∧d.b<=99) then wCome++[32]++numL d.a.toNat++[32]++numL d.b.toNat
 else if d.k=2∧(0<=d.a∧d.a<=99)∧d.b=0 then wNeed++[32]++numL d.a.toNat
 else if d.k=3∧(0<=d.a∧d.a<=99)∧d.b=0 then wLater++[32]++numL d.a.toNat
 else if d=⟨1,0,0⟩ then wGo
 else if d=⟨4,0,0⟩ then wBack
 else []
end Go.Proofs.YticccnkanihpnaaDoor
namespace Go.Proofs.YticccnkanihpnaaDoor
set_option linter.unusedVariables false
open Go.RowKit
structure KV where
 now:List (Int×Int)
 past:List (List (Int×Int))
end Go.Proofs.YticccnkanihpnaaDoor
namespace Go.Proofs.YticccnkanihpnaaDoor
set_option linter.unusedVariables false
open Go.RowKit
def LL (Ls:List (List (Int×Int))) (k:Nat):List (Int×Int):=Ls.getD k []
def Css (w:World) (B:Nat) (A:Option Addr) (Ls:List (List (Int×Int))):Prop :=
 0 < Ls.length->∃ b off,A=some ⟨b,off,none⟩∧b < B∧∀ k,k < Ls.length->∃ Ak ck,w.cell? ⟨b,off+k,none⟩=some (.slice Ak (LL Ls k).length ck)∧(LL Ls k).length<=ck∧Cs w B Ak (LL Ls k)
theorem Css.below {w w':World} {B:Nat} {A:Option Addr} {Ls:List (List (Int×Int))} (h:Css w B A Ls) (hb:Below B w w'):Css w' B A Ls:=by
 intro hn
 obtain ⟨b,off,rfl,hlt,hc⟩:=h hn
 refine ⟨b,off,rfl,hlt,fun k hk=>?_⟩
 obtain ⟨Ak,ck,h1,h2,h3⟩:=hc k hk
 exact ⟨Ak,ck,(hb.cell (p:=⟨b,_,none⟩) hlt).trans h1,h2,h3.below hb⟩
theorem Css.more {w:World} {B B':Nat} {A:Option Addr} {Ls:List (List (Int×Int))} (h:Css w B A Ls) (hb:B<=B'):Css w B' A Ls:=by
 intro hn
 obtain ⟨b,off,rfl,hlt,hc⟩:=h hn
 refine ⟨b,off,rfl,by omega,fun k hk=>?_⟩
 obtain ⟨Ak,ck,h1,h2,h3⟩:=hc k hk
 exact ⟨Ak,ck,h1,h2,h3.more hb⟩
structure PL (w:World) (base:Nat) (v:Value) (Ls:List (List (Int×Int))) (vs:List Value):Prop where
 row:(v=.slice none 0 0∧Ls=[])∨∃ g off c,v=.slice (some ⟨g,off,none⟩) Ls.length c∧Ls.length<=c∧c<=maxLen∧base<=g∧g < w.heap.size ∧
  (∀ k,k < Ls.length->w.cell? ⟨g,off+k,none⟩=some (vs.getD k undef))∧∀ j,j < c->(w.cell? ⟨g,off+j,none⟩).isSome=true∧w.frozen? ⟨g,off+j,none⟩=false
 len:vs.length=Ls.length
 inner:∀ k,k < Ls.length->CO w base (vs.getD k undef) (LL Ls k)
 apart:∀ k,k < Ls.length->∀ r,(vs.getD k undef).ownBlock=some r->v.ownBlock≠some r
 diff:∀ i j,i < Ls.length->j < Ls.length->i≠j->∀ r,(vs.getD i undef).ownBlock=some r->(vs.getD j undef).ownBlock≠some r
theorem PL.kept {w w':World} {base:Nat} {row:Option Nat} {v:Value} {Ls:List (List (Int×Int))} {vs:List Value} (h:PL w base v Ls vs) (hg:w.grownBy w' row) (hr:∀ r,v.ownBlock=some r->row≠some r)
  (hri:∀ k,k < Ls.length->∀ r,(vs.getD k undef).ownBlock=some r->row≠some r):PL w' base v Ls vs:=by
 refine ⟨?_,h.len,fun k hk=>(h.inner k hk).grownR' hg (hri k hk),h.apart,h.diff⟩
 rcases h.row with h0 | ⟨g,off,c,rfl,h1,h2,h3,h4,h5,h6⟩
 ·exact .inl h0
 ·have hb:∀ o,(w'.heap[(⟨g,o,none⟩:Addr).block]?)=w.heap[(⟨g,o,none⟩:Addr).block]?:=fun o=>hg.block g h4 fun e=>hr g (by simp [Value.ownBlock]) e.symm
  exact .inr ⟨g,off,c,rfl,h1,h2,h3,Nat.lt_of_lt_of_le h4 hg.size,fun j hj=>(World.cell?_of_block (hb _)).trans (h5 j hj),fun j hj=>by
   have:=h6 j hj
   rw [World.cell?_of_block (hb _),World.frozen?_of_block (hb _)]
   exact this⟩
theorem PL.below {w w':World} {base B:Nat} {v:Value} {Ls:List (List (Int×Int))} {vs:List Value} (h:PL w base v Ls vs) (hb:Below B w w') (hB:w.heap.size<=B):PL w' base v Ls vs :=
 h.kept (row:=none) ⟨hb.os,hb.tape,hb.output,hb.size,fun k hk _=>hb.block k (by omega)⟩ (fun _ _ e=>by cases e) (fun _ _ _ _ e=>by cases e)
theorem PL.mono {w:World} {base base':Nat} {v:Value} {Ls:List (List (Int×Int))} {vs:List Value} (h:PL w base v Ls vs) (hB:base'<=base):PL w base' v Ls vs:=by
 refine ⟨?_,h.len,fun k hk=>(h.inner k hk).mono hB,h.apart,h.diff⟩
 rcases h.row with h0 | ⟨g,off,c,rfl,h1,h2,h3,h4,h5,h6⟩
 ·exact .inl h0
 ·exact .inr ⟨g,off,c,rfl,h1,h2,by omega,h4,h5,h6⟩
structure KO (w:World) (base:Nat) (vn vp:Value) (D:KV) (vs:List Value):Prop where
 now:CO w base vn D.now
 past:PL w base vp D.past vs
 apn:∀ r,vn.ownBlock=some r->vp.ownBlock≠some r
 api:∀ k,k < D.past.length->∀ r,(vs.getD k undef).ownBlock=some r->vn.ownBlock≠some r
theorem KO.below {w w':World} {base B:Nat} {vn vp:Value} {D:KV} {vs:List Value} (h:KO w base vn vp D vs) (hb:Below B w w') (hB:w.heap.size<=B):KO w' base vn vp D vs:=⟨h.now.below hb hB,h.past.below hb hB,h.apn,h.api⟩
theorem KO.mono {w:World} {base base':Nat} {vn vp:Value} {D:KV} {vs:List Value} (h:KO w base vn vp D vs) (hB:base'<=base):KO w base' vn vp D vs:=⟨h.now.mono hB,h.past.mono hB,h.apn,h.api⟩
structure Ks (w:World) (B:Nat) (vn vp:Value) (D:KV):Prop where
 now:∃ A c,vn=.slice A D.now.length c∧D.now.length<=c∧Cs w B A D.now
 past:∃ A c,vp=.slice A D.past.length c∧D.past.length<=c∧Css w B A D.past
theorem Ks.below {w w':World} {B:Nat} {vn vp:Value} {D:KV} (h:Ks w B vn vp D) (hb:Below B w w'):Ks w' B vn vp D:=by
 obtain ⟨⟨A,c,e1,e2,e3⟩,A',c',e4,e5,e6⟩:=h
 exact ⟨⟨A,c,e1,e2,e3.below hb⟩,A',c',e4,e5,e6.below hb⟩
theorem Ks.more {w:World} {B B':Nat} {vn vp:Value} {D:KV} (h:Ks w B vn vp D) (hb:B<=B'):Ks w B' vn vp D:=by
 obtain ⟨⟨A,c,e1,e2,e3⟩,A',c',e4,e5,e6⟩:=h
 exact ⟨⟨A,c,e1,e2,e3.more hb⟩,A',c',e4,e5,e6.more hb⟩
end Go.Proofs.YticccnkanihpnaaDoor
namespace Go.Proofs.YticccnkanihpnaaDoor
set_option linter.unusedVariables false
open Go.RowKit
attribute [local go_sem ↓] Go.wp_at_zero Go.wp_at_succ
structure KCO (w:World) (base:Nat) (vn vp:Value) (D:KV) (vs:List Value):Prop where
 now:CO w base vn D.now
 past:COO w base vp D.past vs
 apn:∀ r,vn.ownBlock=some r->vp.ownBlock≠some r
 api:∀ k,k < D.past.length->∀ r,(vs.getD k undef).ownBlock=some r->vn.ownBlock≠some r
theorem unfrozen_of {w:World} {R i:Nat} {cs:Array Value} {t:TypeId} (h:w.heap[R]?=some (.cells cs t (0,0))):w.frozen? ⟨R,i,none⟩=false:=by simp [World.frozen?,h]
end Go.Proofs.YticccnkanihpnaaDoor
namespace Go.Proofs.YticccnkanihpnaaDoor
set_option linter.unusedVariables false
open Go.RowKit
attribute [local go_sem ↓] Go.wp_at_zero Go.wp_at_succ
def bs (l:List UInt8):ByteArray:=⟨l.toArray⟩
theorem bs_append (x y:List UInt8):bs x++bs y=bs (x++y):=ByteArray.mk_append_mk x y
theorem bs_size (x:List UInt8):(bs x).size=x.length:=by simp [bs,ByteArray.size]
theorem run_conv1 (c:UInt8) (x:Int) (hx:x=(c.toNat:Int)) (w:World) :
  (convert 22 9 (.slice (some ⟨w.heap.size,0,none⟩) 1 1)).run Tryd.prog (w.alloc (.cells #[.int .u8 x] 5))=.ok (.string (bs [c])) (w.alloc (.cells #[.int .u8 x] 5)):=by
 have:=run_convert_bytes_back (P:=Tryd.prog) (w.alloc (.cells #[.int .u8 x] 5)) 22 9 5 ⟨w.heap.size,0,none⟩ 1 [c] Tryd.underlying22 Tryd.underlying5 Tryd.underlying9
  (fun j hj=>by
    have hj0:j=0:=by simpa using hj
    subst hj0
    have:=World.cell?_alloc_mark w #[.int .u8 x] 5 (0,0) 0
    simp [Addr.add,hx] at this ⊢)
 exact this
theorem run_conv2 (c:UInt8) (x:Int) (hx:x=(c.toNat:Int)) (w:World) (B:Nat) (hc:w.cell? ⟨B,0,none⟩=some (.int .u8 x)) :
  (convert 22 9 (.slice (some ⟨B,0,none⟩) 1 1)).run Tryd.prog w=.ok (.string (bs [c])) w :=
 run_convert_bytes_back (P:=Tryd.prog) w 22 9 5 ⟨B,0,none⟩ 1 [c] Tryd.underlying22 Tryd.underlying5 Tryd.underlying9
  (fun j hj=>by
    have hj0:j=0:=by simpa using hj
    subst hj0
    simpa [Addr.add,hx] using hc)
set_option maxRecDepth 8000 in
set_option maxHeartbeats 2000000 in
theorem c_sNumber:∀ (n:Nat) (w:World),n<=1000000000 ->
  Calls Tryd.prog 38 #[.int .i64 (n:Int)] w fun e w'=>e=.returned (.string (bs (numL n)))∧Below w.heap.size w w':=by
 intro n
 induction n using Nat.strongRecOn with
 | _ n ih =>
  intro w hn
  have hd:=dig8_nat n
  by_cases h:n < 10
  ·have hE:=Lib.hid (numL_one h)
   have d1:decide ((n:Int) < 10)=true:=decide_eq_true (by omega)
   have p0:¬ ((n:Int) < 0):=by omega
   have p1:(0:Int)<=(n:Int):=by omega
   have q1:IntKind.i64.wrap (48+(n:Int))=48+(n:Int):=IntWalk.i64_in _ (by omega)
   have hcv:=run_conv1 (dig8 n) (48+(n:Int)) (by omega) w
   have hbz:Below w.heap.size w (w.alloc (.cells #[.int .u8 (48+(n:Int))] 5)):=by (repeat (first | exact rfl | exact Below.refl _ _ | (with_reducible refine Below.drew ?_) | (with_reducible refine Below.drewN ?_ _) | (with_reducible refine Below.alloc ?_ ?_ _) | (with_reducible refine Below.setCell ?_ ?_ _) | (show _<=_;focus (first | omega | (simp;done) | (simp;omega)))))
   clear ih hd
   go_enter Tryd.func38,Tryd.ntmps38
   go_wp2_with fail
   go_ret
   exact ⟨by rw [hE.out];rfl,hbz⟩
  ·have hE0:=numL_more h
   have hb9:n % 10 < 10:=Nat.mod_lt _ (by omega)
   have hl9:=numL_len 8 (n / 10) (by omega)
   obtain ⟨m,hm⟩:∃ m:Nat,n / 10=m:=⟨_,rfl⟩
   obtain ⟨r,hr⟩:∃ r:Nat,n % 10=r:=⟨_,rfl⟩
   have d1:decide ((n:Int) < 10)=false:=decide_eq_false (by omega)
   have q2:(n:Int).tdiv 10=(m:Int):=by rw [Int.tdiv_eq_ediv_of_nonneg (by omega)];omega
   have q3:(n:Int).tmod 10=(r:Int):=by rw [Int.tmod_eq_emod_of_nonneg (by omega)];omega
   have q4:IntKind.i64.wrap (48+(r:Int))=48+(r:Int):=IntWalk.i64_in _ (by omega)
   have q5:IntKind.i64.wrap (m:Int)=(m:Int):=IntWalk.i64_in _ (by omega)
   have hcv:=fun W=>run_conv1 (dig8 n) (48+(r:Int)) (by omega) W
   have hcv2:=fun W B=>run_conv2 (dig8 n) (48+(r:Int)) (by omega) W B
   have q6:IntKind.u8.wrap (48+(r:Int))=48+(r:Int):=by show (48+(r:Int)) % 256=_;omega
   have HC:=Lib.hid (fun W=>ih m (by omega) W (by omega))
   rw [hm] at hl9 hE0
   have hE:=Lib.hid hE0
   have z1:(bs (numL m)).size<=9:=by rw [bs_size];omega
   have z2:(bs [dig8 n]).size=1:=by rw [bs_size];rfl
   have hz:¬ ((bs (numL m)).size+(bs [dig8 n]).size > 9223372036854775807):=by omega
   generalize hdg:dig8 n=dg at *
   have HDG:=Lib.hid hdg
   generalize hnm:numL m=nm at *
   clear ih hd hE0 hdg hnm h hb9 hl9 hm hr z1 z2
   go_enter Tryd.func38,Tryd.ntmps38
   go_wp2_with fail
   go_region_with (go_at_call 38;refine (HC.out _).mono ?_;rintro e w6 ⟨rfl,hb6⟩;first | (have hc6:w6.cell? ⟨w.heap.size,0,none⟩=some (.int .u8 (48+(r:Int))):=(hb6.cell (p:=⟨w.heap.size,0,none⟩) (by simp)).trans (World.cell?_alloc_mark w.drew #[.int .u8 (48+(r:Int))] 5 (0,0) 0)) | skip)
   all_goals
    have kx:Below w.heap.size w w6:=by
     first
      | exact (Below.refl _ _).drew.trans hb6
      | exact (((Below.refl _ w).alloc (Nat.le_refl _) _).drew).trans (hb6.mono (by simp))
    have ky:=fun o=>kx.alloc kx.size o
    have hV:=hE.out
    clear q2 q3 q4 q5 q6 hcv hcv2 hz
    go_wp2_with fail
    go_ret
    exact ⟨by rw [hV,<- bs_append];rfl,by first | exact kx | exact ky _⟩
end Go.Proofs.YticccnkanihpnaaDoor
namespace Go.Proofs.YticccnkanihpnaaDoor
set_option linter.unusedVariables false
open Go.RowKit
def ZS (xs:List (List UInt8)) (k:Nat):List UInt8:=xs.getD k []
def sv (x:List UInt8):Value:=.string (bs x)
def Ss (w:World) (B:Nat) (A:Option Addr) (xs:List (List UInt8)):Prop :=
 0 < xs.length->∃ b off,A=some ⟨b,off,none⟩∧b < B∧∀ k,k < xs.length->w.cell? ⟨b,off+k,none⟩=some (.string (bs (ZS xs k)))
theorem Ss.below {w w':World} {B:Nat} {A:Option Addr} {xs:List (List UInt8)} (h:Ss w B A xs) (hb:Below B w w'):Ss w' B A xs:=by
 intro hn
 obtain ⟨b,off,rfl,hlt,hc⟩:=h hn
 exact ⟨b,off,rfl,hlt,fun k hk=>(hb.cell (p:=⟨b,_,none⟩) hlt).trans (hc k hk)⟩
theorem Ss.more {w:World} {B B':Nat} {A:Option Addr} {xs:List (List UInt8)} (h:Ss w B A xs) (hb:B<=B'):Ss w B' A xs:=by
 intro hn
 obtain ⟨b,off,rfl,hlt,hc⟩:=h hn
 exact ⟨b,off,rfl,by omega,hc⟩
def SO (w:World) (base:Nat) (v:Value) (xs:List (List UInt8)):Prop:=w.ownsRow base 9 1 v xs.length (xs.map sv)
theorem SO.below {w w':World} {base B:Nat} {v:Value} {xs:List (List UInt8)} (h:SO w base v xs) (hb:Below B w w') (hB:w.heap.size<=B):SO w' base v xs:=owns_below h hb hB
theorem SO.mono {w:World} {base base':Nat} {v:Value} {xs:List (List UInt8)} (h:SO w base v xs) (hB:base'<=base):SO w base' v xs:=owns_mono h hB
theorem SO.cells {w:World} {base g n c:Nat} {M:List (List UInt8)} (h:SO w base (.slice (some ⟨g,0,none⟩) n c) M) :
  n=M.length∧(∀ k,k < n->w.cell? ⟨g,k,none⟩=some (.string (bs (ZS M k))))∧∀ j,w.frozen? ⟨g,j,none⟩=false:=by
 have hn:n=M.length:=by
  rcases h.2 with ⟨h2,_⟩ | ⟨g',cap,cur,h2,_⟩
  ·cases h2
  ·injection h2
 subst hn
 refine ⟨rfl,fun k hk=>?_,fun j=>World.ownsRow.frozenAt h j⟩
 rw [World.ownsRow.cellAt h k (by omega)]
 simp [ZS,sv,hk]
theorem SO.alloc {w:World} {base:Nat} {v:Value} {xs:List (List UInt8)} (h:SO w base v xs) (o:Obj):SO (w.alloc o) base v xs:=World.ownsRow.alloc h o
theorem SO.drew {w:World} {base:Nat} {v:Value} {xs:List (List UInt8)} (h:SO w base v xs):SO w.drew base v xs:=h
section
variable {w:World}
end
end Go.Proofs.YticccnkanihpnaaDoor
namespace Go.Proofs.YticccnkanihpnaaDoor
set_option linter.unusedVariables false
open Go.RowKit
def ZD (L:List DV) (k:Nat):DV:=L.getD k ⟨0,0,0⟩
def flatD (L:List DV):List Value:=L.flatMap fun d=>[.int .i64 d.k,.int .i64 d.a,.int .i64 d.b]
theorem flatD_len (L:List DV):(flatD L).length=L.length * 3:=by
 induction L with
 | nil=>rfl
 | cons c L ih=>simp [flatD] at ih ⊢;omega
def Ds3 (w:World) (B:Nat) (A:Option Addr) (L:List DV):Prop :=
 0 < L.length->∃ b off,A=some ⟨b,off,none⟩∧b < B∧∀ k,k < L.length->w.cell? ⟨b,off+k * 3,none⟩=some (.int .i64 (ZD L k).k)∧w.cell? ⟨b,off+k * 3+1,none⟩=some (.int .i64 (ZD L k).a)∧w.cell? ⟨b,off+k * 3+2,none⟩=some (.int .i64 (ZD L k).b)
theorem Ds3.below {w w':World} {B:Nat} {A:Option Addr} {L:List DV} (h:Ds3 w B A L) (hb:Below B w w'):Ds3 w' B A L:=by
 intro hn
 obtain ⟨b,off,rfl,hlt,hc⟩:=h hn
 exact ⟨b,off,rfl,hlt,fun k hk=>⟨(hb.cell (p:=⟨b,_,none⟩) hlt).trans (hc k hk).1,(hb.cell (p:=⟨b,_,none⟩) hlt).trans (hc k hk).2.1,(hb.cell (p:=⟨b,_,none⟩) hlt).trans (hc k hk).2.2⟩⟩
theorem Ds3.more {w:World} {B B':Nat} {A:Option Addr} {L:List DV} (h:Ds3 w B A L) (hb:B<=B'):Ds3 w B' A L:=by
 intro hn
 obtain ⟨b,off,rfl,hlt,hc⟩:=h hn
 exact ⟨b,off,rfl,by omega,hc⟩
def EO (w:World) (base:Nat) (v:Value) (L:List DV):Prop:=w.ownsRow base 24 3 v L.length (flatD L)
theorem EO.below {w w':World} {base B:Nat} {v:Value} {xs:List DV} (h:EO w base v xs) (hb:Below B w w') (hB:w.heap.size<=B):EO w' base v xs:=owns_below h hb hB
theorem EO.mono {w:World} {base base':Nat} {v:Value} {xs:List DV} (h:EO w base v xs) (hB:base'<=base):EO w base' v xs:=owns_mono h hB
theorem EO.alloc {w:World} {base:Nat} {v:Value} {xs:List DV} (h:EO w base v xs) (o:Obj):EO (w.alloc o) base v xs:=World.ownsRow.alloc h o
theorem EO.drew {w:World} {base:Nat} {v:Value} {xs:List DV} (h:EO w base v xs):EO w.drew base v xs:=h
section
variable {w:World}
end
end Go.Proofs.YticccnkanihpnaaDoor
namespace Go.Proofs.YticccnkanihpnaaDoor
set_option linter.unusedVariables false
open Go.RowKit
attribute [local go_sem ↓] Go.wp_at_zero Go.wp_at_succ
theorem deedL_come {a b:Int} (ha:0<=a∧a<=99) (hb:0<=b∧b<=99):deedL ⟨0,a,b⟩=wCome++[32]++numL a.toNat++[32]++numL b.toNat:=by rw [deedL,if_pos ⟨rfl,ha,hb⟩]
theorem deedL_none {k a b:Int} (h0:¬ (k=0∧(0<=a∧a<=99)∧(0<=b∧b<=99))) (h2:¬ (k=2∧(0<=a∧a<=99)∧b=0)) (h3:¬ (k=3∧(0<=a∧a<=99)∧b=0))
  (h1:¬ (k=1∧a=0∧b=0)) (h4:¬ (k=4∧a=0∧b=0)):deedL ⟨k,a,b⟩=[]:=by
 rw [deedL,if_neg h0,if_neg h2,if_neg h3,if_neg (by simpa using h1),if_neg (by simpa using h4)]
theorem deedL_need {a:Int} (ha:0<=a∧a<=99):deedL ⟨2,a,0⟩=wNeed++[32]++numL a.toNat:=by rw [deedL,if_neg (by simp),if_pos ⟨rfl,ha,rfl⟩]
theorem deedL_later {a:Int} (ha:0<=a∧a<=99):deedL ⟨3,a,0⟩=wLater++[32]++numL a.toNat:=by rw [deedL,if_neg (by simp),if_neg (by simp),if_pos ⟨rfl,ha,rfl⟩]
theorem num_size {n:Nat} (h:n<=99):(bs (numL n)).size<=2:=by rw [bs_size];exact numL_len 1 n (by omega)
set_option maxRecDepth 8000 in
set_option maxHeartbeats 4000000 in
theorem c_sDeedGo  (w:World) :
  Calls Tryd.prog 12 #[.agg #[.int .i64 1,.int .i64 0,.int .i64 0]] w fun e w'=>e=.returned (.string (bs (deedL ⟨1,0,0⟩)))∧Below w.heap.size w w':=by
 have hbz:Below w.heap.size w (w.alloc (.cells #[.int .i64 1,.int .i64 0,.int .i64 0] 24)):=by (repeat (first | exact rfl | exact Below.refl _ _ | (with_reducible refine Below.drew ?_) | (with_reducible refine Below.drewN ?_ _) | (with_reducible refine Below.alloc ?_ ?_ _) | (with_reducible refine Below.setCell ?_ ?_ _) | (show _<=_;focus (first | omega | (simp;done) | (simp;omega)))))
 go_enter Tryd.func12,Tryd.ntmps12
 go_wp2_with fail
 go_ret
 exact ⟨rfl,hbz⟩
set_option maxRecDepth 8000 in
set_option maxHeartbeats 4000000 in
theorem c_sDeedBack  (w:World) :
  Calls Tryd.prog 12 #[.agg #[.int .i64 4,.int .i64 0,.int .i64 0]] w fun e w'=>e=.returned (.string (bs (deedL ⟨4,0,0⟩)))∧Below w.heap.size w w':=by
 have hbz:Below w.heap.size w (w.alloc (.cells #[.int .i64 4,.int .i64 0,.int .i64 0] 24)):=by (repeat (first | exact rfl | exact Below.refl _ _ | (with_reducible refine Below.drew ?_) | (with_reducible refine Below.drewN ?_ _) | (with_reducible refine Below.alloc ?_ ?_ _) | (with_reducible refine Below.setCell ?_ ?_ _) | (show _<=_;focus (first | omega | (simp;done) | (simp;omega)))))
 go_enter Tryd.func12,Tryd.ntmps12
 go_wp2_with fail
 go_ret
 exact ⟨rfl,hbz⟩
set_option maxRecDepth 8000 in
set_option maxHeartbeats 4000000 in
theorem c_sDeedCome (an bn:Nat) (han:an<=99) (hbn:bn<=99) (w:World) :
  Calls Tryd.prog 12 #[.agg #[.int .i64 0,.int .i64 (an:Int),.int .i64 (bn:Int)]] w fun e w'=>e=.returned (.string (bs (deedL ⟨0,(an:Int),(bn:Int)⟩)))∧Below w.heap.size w w':=by
 have HA:=Lib.hid (fun W=>c_l1In (an:Int) 0 99 W)
 have DA:=Lib.hid (show decide (0<=(an:Int)∧(an:Int)<=99)=true from decide_eq_true (by omega))
 have HN:=Lib.hid (fun W=>c_sNumber an W (by omega))
 have HV:=Lib.hid (deedL_come (a:=(an:Int)) (b:=(bn:Int)) (by omega) (by omega))
 have z1:=num_size (n:=an) (by omega)
 have z2:=num_size (n:=bn) (by omega)
 have HK:=Lib.hid (fun (n:Nat) W (h:n<=99)=>c_sNumber n W (by omega))
 have HB:=Lib.hid (fun W=>c_l1In (bn:Int) 0 99 W)
 have DB:=Lib.hid (show decide (0<=(bn:Int)∧(bn:Int)<=99)=true from decide_eq_true (by omega))
 have hb1:Below w.heap.size w (w.alloc (.cells #[.int .i64 0,.int .i64 (an:Int),.int .i64 (bn:Int)] 24)):=by (repeat (first | exact rfl | exact Below.refl _ _ | (with_reducible refine Below.drew ?_) | (with_reducible refine Below.drewN ?_ _) | (with_reducible refine Below.alloc ?_ ?_ _) | (with_reducible refine Below.setCell ?_ ?_ _) | (show _<=_;focus (first | omega | (simp;done) | (simp;omega)))))
 have c0:=World.cell?_alloc_mark w #[.int .i64 0,.int .i64 (an:Int),.int .i64 (bn:Int)] 24 (0,0) 0
 have c1:=World.cell?_alloc_mark w #[.int .i64 0,.int .i64 (an:Int),.int .i64 (bn:Int)] 24 (0,0) 1
 have c2:=World.cell?_alloc_mark w #[.int .i64 0,.int .i64 (an:Int),.int .i64 (bn:Int)] 24 (0,0) 2
 have hsz:w.heap.size < (w.alloc (.cells #[.int .i64 0,.int .i64 (an:Int),.int .i64 (bn:Int)] 24)).heap.size:=by simp
 have C1:=Lib.hid c1
 have C2:=Lib.hid c2
 clear c0 c1 c2
 go_enter Tryd.func12,Tryd.ntmps12
 go_wp2_with fail
 refine (HA.out _).mono ?_
 rintro e w1 ⟨rfl,rfl⟩
 rw [DA.out]
 go_wp2_with fail
 refine (HB.out _).mono ?_
 rintro e w1 ⟨rfl,rfl⟩
 rw [DB.out]
 go_wp2_with fail
 have c1:=C1.out
 have c2:=C2.out
 generalize w.alloc (.cells #[.int .i64 0,.int .i64 (an:Int),.int .i64 (bn:Int)] 24)=w1 at *
 have g1:=WB.cell (w:=w1) hsz c1
 have g2:=WB.cell (w:=w1) hsz c2
 clear c1 c2 C1 C2
 have y1:¬ (({ data:=#[99,111,109,101,32] }:ByteArray).size+(bs (numL an)).size > 9223372036854775807):=by show ¬ (5+_ > _);omega
 have y2:¬ (9223372036854775807 < 5+(bs (numL an)).size):=by omega
 have y3:¬ (9223372036854775807 < 5+(bs (numL an)).size+1):=by omega
 have y4:¬ (9223372036854775807 < 5+(bs (numL an)).size+1+(bs (numL bn)).size):=by omega
 refine wp_region_wb w1.heap.size (by kernel_rfl) (by kernel_rfl) ?_
 repeat (go_big_quiet_step ((go_at_call 38;exact Calls.inB (Nat.le_refl _) (HK.out _ _ (by omega)))))
 refine wpQuiet_nil ?_
 rintro w2 ⟨⟨_,hb2⟩,rfl⟩
 clear g1 g2 y1 y2 y3 y4
 go_wp2_with fail
 go_ret
 exact ⟨by rw [HV.out,<- bs_append,<- bs_append,<- bs_append,<- bs_append,Int.toNat_natCast,Int.toNat_natCast];rfl,hb1.trans (hb2.mono hb1.size)⟩
set_option maxRecDepth 8000 in
set_option maxHeartbeats 4000000 in
theorem c_sDeedNeed (an:Nat) (han:an<=99) (w:World) :
  Calls Tryd.prog 12 #[.agg #[.int .i64 2,.int .i64 (an:Int),.int .i64 0]] w fun e w'=>e=.returned (.string (bs (deedL ⟨2,(an:Int),0⟩)))∧Below w.heap.size w w':=by
 have HA:=Lib.hid (fun W=>c_l1In (an:Int) 0 99 W)
 have DA:=Lib.hid (show decide (0<=(an:Int)∧(an:Int)<=99)=true from decide_eq_true (by omega))
 have HN:=Lib.hid (fun W=>c_sNumber an W (by omega))
 have HV:=Lib.hid (deedL_need (a:=(an:Int)) (by omega))
 have z1:=num_size (n:=an) (by omega)
 have hb1:Below w.heap.size w (w.alloc (.cells #[.int .i64 2,.int .i64 (an:Int),.int .i64 0] 24)):=by (repeat (first | exact rfl | exact Below.refl _ _ | (with_reducible refine Below.drew ?_) | (with_reducible refine Below.drewN ?_ _) | (with_reducible refine Below.alloc ?_ ?_ _) | (with_reducible refine Below.setCell ?_ ?_ _) | (show _<=_;focus (first | omega | (simp;done) | (simp;omega)))))
 have c0:=World.cell?_alloc_mark w #[.int .i64 2,.int .i64 (an:Int),.int .i64 0] 24 (0,0) 0
 have c1:=World.cell?_alloc_mark w #[.int .i64 2,.int .i64 (an:Int),.int .i64 0] 24 (0,0) 1
 have c2:=World.cell?_alloc_mark w #[.int .i64 2,.int .i64 (an:Int),.int .i64 0] 24 (0,0) 2
 have hsz:w.heap.size < (w.alloc (.cells #[.int .i64 2,.int .i64 (an:Int),.int .i64 0] 24)).heap.size:=by simp
 have C1:=Lib.hid c1
 have C2:=Lib.hid c2
 clear c0 c1 c2
 go_enter Tryd.func12,Tryd.ntmps12
 go_wp2_with fail
 refine (HA.out _).mono ?_
 rintro e w1 ⟨rfl,rfl⟩
 rw [DA.out]
 go_wp2_with fail
 refine (HN.out _).mono ?_
 rintro e w2 ⟨rfl,hb2⟩
 have hx:=hb1.trans (hb2.mono hb1.size)
 have y2:¬ (9223372036854775807 < 5+(bs (numL an)).size):=by omega
 clear C1 C2
 go_wp2_with fail
 go_ret
 exact ⟨by rw [HV.out,<- bs_append,<- bs_append,Int.toNat_natCast];rfl,hx⟩
set_option maxRecDepth 8000 in
set_option maxHeartbeats 4000000 in
theorem c_sDeedLater (an:Nat) (han:an<=99) (w:World) :
  Calls Tryd.prog 12 #[.agg #[.int .i64 3,.int .i64 (an:Int),.int .i64 0]] w fun e w'=>e=.returned (.string (bs (deedL ⟨3,(an:Int),0⟩)))∧Below w.heap.size w w':=by
 have HA:=Lib.hid (fun W=>c_l1In (an:Int) 0 99 W)
 have DA:=Lib.hid (show decide (0<=(an:Int)∧(an:Int)<=99)=true from decide_eq_true (by omega))
 have HN:=Lib.hid (fun W=>c_sNumber an W (by omega))
 have HV:=Lib.hid (deedL_later (a:=(an:Int)) (by omega))
 have z1:=num_size (n:=an) (by omega)
 have hb1:Below w.heap.size w (w.alloc (.cells #[.int .i64 3,.int .i64 (an:Int),.int .i64 0] 24)):=by (repeat (first | exact rfl | exact Below.refl _ _ | (with_reducible refine Below.drew ?_) | (with_reducible refine Below.drewN ?_ _) | (with_reducible refine Below.alloc ?_ ?_ _) | (with_reducible refine Below.setCell ?_ ?_ _) | (show _<=_;focus (first | omega | (simp;done) | (simp;omega)))))
 have c0:=World.cell?_alloc_mark w #[.int .i64 3,.int .i64 (an:Int),.int .i64 0] 24 (0,0) 0
 have c1:=World.cell?_alloc_mark w #[.int .i64 3,.int .i64 (an:Int),.int .i64 0] 24 (0,0) 1
 have c2:=World.cell?_alloc_mark w #[.int .i64 3,.int .i64 (an:Int),.int .i64 0] 24 (0,0) 2
 have hsz:w.heap.size < (w.alloc (.cells #[.int .i64 3,.int .i64 (an:Int),.int .i64 0] 24)).heap.size:=by simp
 have C1:=Lib.hid c1
 have C2:=Lib.hid c2
 clear c0 c1 c2
 go_enter Tryd.func12,Tryd.ntmps12
 go_wp2_with fail
 refine (HA.out _).mono ?_
 rintro e w1 ⟨rfl,rfl⟩
 rw [DA.out]
 go_wp2_with fail
 refine (HN.out _).mono ?_
 rintro e w2 ⟨rfl,hb2⟩
 have hx:=hb1.trans (hb2.mono hb1.size)
 have y2:¬ (9223372036854775807 < 6+(bs (numL an)).size):=by omega
 clear C1 C2
 go_wp2_with fail
 go_ret
 exact ⟨by rw [HV.out,<- bs_append,<- bs_append,Int.toNat_natCast];rfl,hx⟩
set_option maxRecDepth 8000 in
set_option maxHeartbeats 8000000 in
theorem c_sDeedText (k a b:Int) (w:World) :
  Calls Tryd.prog 12 #[.agg #[.int .i64 k,.int .i64 a,.int .i64 b]] w fun e w'=>e=.returned (.string (bs (deedL ⟨k,a,b⟩)))∧Below w.heap.size w w':=by
 have HA:=Lib.hid (fun W=>c_l1In a 0 99 W)
 have HB:=Lib.hid (fun W=>c_l1In b 0 99 W)
 have hbz:Below w.heap.size w (w.alloc (.cells #[.int .i64 k,.int .i64 a,.int .i64 b] 24)):=by (repeat (first | exact rfl | exact Below.refl _ _ | (with_reducible refine Below.drew ?_) | (with_reducible refine Below.drewN ?_ _) | (with_reducible refine Below.alloc ?_ ?_ _) | (with_reducible refine Below.setCell ?_ ?_ _) | (show _<=_;focus (first | omega | (simp;done) | (simp;omega)))))
 by_cases k0:k=0
 ·subst k0
  by_cases ha:0<=a∧a<=99
  ·by_cases hb:0<=b∧b<=99
   ·obtain ⟨an,rfl⟩:∃ n:Nat,a=(n:Int):=⟨a.toNat,by omega⟩
    obtain ⟨bn,rfl⟩:∃ n:Nat,b=(n:Int):=⟨b.toNat,by omega⟩
    exact c_sDeedCome an bn (by omega) (by omega) w
   ·have DA:=Lib.hid (decide_eq_true ha)
    have DB:=Lib.hid (decide_eq_false hb)
    have HV:=Lib.hid (deedL_none (k:=0) (a:=a) (b:=b) (fun h=>hb h.2.2) (by omega) (by omega) (by omega) (by omega))
    clear ha hb
    go_enter Tryd.func12,Tryd.ntmps12
    go_wp2_with fail
    refine (HA.out _).mono ?_
    rintro e w1 ⟨rfl,rfl⟩
    rw [DA.out]
    go_wp2_with fail
    refine (HB.out _).mono ?_
    rintro e w1 ⟨rfl,rfl⟩
    rw [DB.out]
    go_wp2_with fail
    go_ret
    exact ⟨by rw [HV.out];rfl,hbz⟩
  ·have DA:=Lib.hid (decide_eq_false ha)
   have HV:=Lib.hid (deedL_none (k:=0) (a:=a) (b:=b) (fun h=>ha h.2.1) (by omega) (by omega) (by omega) (by omega))
   clear ha
   go_enter Tryd.func12,Tryd.ntmps12
   go_wp2_with fail
   refine (HA.out _).mono ?_
   rintro e w1 ⟨rfl,rfl⟩
   rw [DA.out]
   go_wp2_with fail
   go_ret
   exact ⟨by rw [HV.out];rfl,hbz⟩
 ·have e0:(k == 0)=false:=beq_eq_false_iff_ne.2 k0
  by_cases k2:k=2
  ·subst k2
   by_cases ha:0<=a∧a<=99
   ·have DA:=Lib.hid (decide_eq_true ha)
    by_cases hb:b=0
    ·subst hb
     obtain ⟨an,rfl⟩:∃ n:Nat,a=(n:Int):=⟨a.toNat,by omega⟩
     exact c_sDeedNeed an (by omega) w
    ·have hb0:(b == 0)=false:=beq_eq_false_iff_ne.2 hb
     have HV:=Lib.hid (deedL_none (k:=2) (a:=a) (b:=b) (by omega) (by omega) (by omega) (by omega) (by omega))
     clear ha hb
     go_enter Tryd.func12,Tryd.ntmps12
     go_wp2_with fail
     refine (HA.out _).mono ?_
     rintro e w1 ⟨rfl,rfl⟩
     rw [DA.out]
     go_wp2_with fail
     go_ret
     exact ⟨by rw [HV.out];rfl,hbz⟩
   ·have DA:=Lib.hid (decide_eq_false ha)
    have HV:=Lib.hid (deedL_none (k:=2) (a:=a) (b:=b) (by omega) (by omega) (by omega) (by omega) (by omega))
    clear ha
    go_enter Tryd.func12,Tryd.ntmps12
    go_wp2_with fail
    refine (HA.out _).mono ?_
    rintro e w1 ⟨rfl,rfl⟩
    rw [DA.out]
    go_wp2_with fail
    go_ret
    exact ⟨by rw [HV.out];rfl,hbz⟩
  ·have e2:(k == 2)=false:=beq_eq_false_iff_ne.2 k2
   by_cases k3:k=3
   ·subst k3
    by_cases ha:0<=a∧a<=99
    ·have DA:=Lib.hid (decide_eq_true ha)
     by_cases hb:b=0
     ·subst hb
      obtain ⟨an,rfl⟩:∃ n:Nat,a=(n:Int):=⟨a.toNat,by omega⟩
      exact c_sDeedLater an (by omega) w
     ·have hb0:(b == 0)=false:=beq_eq_false_iff_ne.2 hb
      have HV:=Lib.hid (deedL_none (k:=3) (a:=a) (b:=b) (by omega) (by omega) (by omega) (by omega) (by omega))
      clear ha hb
      go_enter Tryd.func12,Tryd.ntmps12
      go_wp2_with fail
      refine (HA.out _).mono ?_
      rintro e w1 ⟨rfl,rfl⟩
      rw [DA.out]
      go_wp2_with fail
      go_ret
      exact ⟨by rw [HV.out];rfl,hbz⟩
    ·have DA:=Lib.hid (decide_eq_false ha)
     have HV:=Lib.hid (deedL_none (k:=3) (a:=a) (b:=b) (by omega) (by omega) (by omega) (by omega) (by omega))
     clear ha
     go_enter Tryd.func12,Tryd.ntmps12
     go_wp2_with fail
     refine (HA.out _).mono ?_
     rintro e w1 ⟨rfl,rfl⟩
     rw [DA.out]
     go_wp2_with fail
     go_ret
     exact ⟨by rw [HV.out];rfl,hbz⟩
   ·have e3:(k == 3)=false:=beq_eq_false_iff_ne.2 k3
    by_cases h1:k=1∧a=0∧b=0
    ·obtain ⟨rfl,rfl,rfl⟩:=h1
     exact c_sDeedGo w
    ·by_cases h4:k=4∧a=0∧b=0
     ·obtain ⟨rfl,rfl,rfl⟩:=h4
      exact c_sDeedBack w
     ·have HV:=Lib.hid (deedL_none (fun h=>k0 h.1) (fun h=>k2 h.1) (fun h=>k3 h.1) h1 h4)
      have f1:¬ (k=1∧a=0∧b=0):=h1
      have f4:¬ (k=4∧a=0∧b=0):=h4
      clear HA HB
      go_enter Tryd.func12,Tryd.ntmps12
      go_wp2_with fail
      all_goals
       go_ret
       exact ⟨by rw [HV.out];rfl,by (repeat (first | exact rfl | exact Below.refl _ _ | (with_reducible refine Below.drew ?_) | (with_reducible refine Below.drewN ?_ _) | (with_reducible refine Below.alloc ?_ ?_ _) | (with_reducible refine Below.setCell ?_ ?_ _) | (show _<=_;focus (first | omega | (simp;done) | (simp;omega)))))⟩
end Go.Proofs.YticccnkanihpnaaDoor
namespace Go.Proofs.YticccnkanihpnaaDoor
set_option linter.unusedVariables false
open Go.RowKit
attribute [local go_sem ↓] Go.wp_at_zero Go.wp_at_succ
section
variable {w:World}
end
theorem EO.lit {w:World} {base:Nat} (h:base<=w.heap.size) (M:List DV) (hm:M.length<=1000):EO (w.alloc (.cells (flatD M).toArray 24)) base (.slice (some ⟨w.heap.size,0,none⟩) M.length M.length) M:=by
 refine ⟨by rw [flatD_len],.inr ⟨w.heap.size,M.length,(flatD M).toArray,rfl,h,heap_alloc_new _ _,Nat.le_refl _,by simp only [maxLen];omega,?_,?_⟩⟩
 ·simp [flatD_len]
 ·exact List.take_of_length_le (by simp [flatD_len])
end Go.Proofs.YticccnkanihpnaaDoor
namespace Go.Proofs.YticccnkanihpnaaDoor
set_option linter.unusedVariables false
open Go.RowKit
theorem var_same {P:Program} {w w':World} {name:String} {g:Nat} (hg:P.globalNamed name=some g) (h:w'.heap[g]?=w.heap[g]?):w'.var? P name=w.var? P name:=by
 simp only [World.var?,hg,Option.bind_some,h]
def LV1 (w : World) (B : Nat) : Prop := 1 < B ∧ Lib.TabIs Tryd.prog w "internal/strconv.uint64pow10" .u64 Lib.pow10Tab
theorem LV1.below {w w':World} {B:Nat} (h:LV1 w B) (hb:Below B w w'):LV1 w' B:=⟨h.1,by have:=h.2;unfold Lib.TabIs at this ⊢;rw [var_same (by kernel_rfl) (hb.block _ h.1)];exact this⟩
theorem LV1.more {w:World} {B B':Nat} (h:LV1 w B) (hB:B<=B'):LV1 w B':=⟨Nat.lt_of_lt_of_le h.1 hB,h.2⟩
def LV2 (w : World) (B : Nat) : Prop := (4 < B ∧ ∃ tp p, w.var? Tryd.prog "strconv.ErrSyntax" = some #[.iface tp p]) ∧ 5 < B ∧ ∃ tp p, w.var? Tryd.prog "strconv.ErrRange" = some #[.iface tp p]
theorem LV2.below {w w':World} {B:Nat} (h:LV2 w B) (hb:Below B w w'):LV2 w' B :=
 ⟨⟨h.1.1,by rw [var_same (by kernel_rfl) (hb.block _ h.1.1)];exact h.1.2⟩,h.2.1,by rw [var_same (by kernel_rfl) (hb.block _ h.2.1)];exact h.2.2⟩
theorem LV2.more {w:World} {B B':Nat} (h:LV2 w B) (hB:B<=B'):LV2 w B':=⟨⟨Nat.lt_of_lt_of_le h.1.1 hB,h.1.2⟩,Nat.lt_of_lt_of_le h.2.1 hB,h.2.2⟩
def LV3 (w:World) (B:Nat):Prop:=0 < B∧∃ m,w.cell? ⟨0,0,none⟩=some (.int .i64 m)
theorem LV3.below {w w':World} {B:Nat} (h:LV3 w B) (hb:Below B w w'):LV3 w' B:=⟨h.1,by rw [hb.cell (p:=⟨0,0,none⟩) h.1];exact h.2⟩
theorem LV3.more {w:World} {B B':Nat} (h:LV3 w B) (hB:B<=B'):LV3 w B':=⟨Nat.lt_of_lt_of_le h.1 hB,h.2⟩
def LV (w:World) (B:Nat):Prop:=LV1 w B∧LV2 w B∧LV3 w B
theorem LV.below {w w':World} {B:Nat} (h:LV w B) (hb:Below B w w'):LV w' B:=⟨h.1.below hb,h.2.1.below hb,h.2.2.below hb⟩
theorem LV.more {w:World} {B B':Nat} (h:LV w B) (hB:B<=B'):LV w B':=⟨h.1.more hB,h.2.1.more hB,h.2.2.more hB⟩
theorem LV.at {w w':World} (h:LV w w.heap.size) (hb:Below w.heap.size w w'):LV w' w'.heap.size:=(h.below hb).more hb.size
end Go.Proofs.YticccnkanihpnaaDoor
namespace Go.Proofs.YticccnkanihpnaaDoor
set_option linter.unusedVariables false
open Go.RowKit
theorem hsetA {w:World} {R:Nat} {t:TypeId} {x y:Value} (q:Value) (h:w.heap[R]?=some (.cells #[x,y] t (0,0))):(w.setCell ⟨R,0,none⟩ q).heap[R]?=some (.cells #[q,y] t (0,0)):=by
 obtain ⟨hlt,he⟩:=Array.getElem?_eq_some_iff.1 h
 rw [Array.getElem?_eq_getElem (by simpa [World.setCell] using hlt)]
 simp [World.setCell,Array.getElem_modify,he]
theorem hsetB {w:World} {R:Nat} {t:TypeId} {x y:Value} (q:Value) (h:w.heap[R]?=some (.cells #[x,y] t (0,0))):(w.setCell ⟨R,1,none⟩ q).heap[R]?=some (.cells #[x,q] t (0,0)):=by
 obtain ⟨hlt,he⟩:=Array.getElem?_eq_some_iff.1 h
 rw [Array.getElem?_eq_getElem (by simpa [World.setCell] using hlt)]
 simp [World.setCell,Array.getElem_modify,he]
theorem unfrozenB {w:World} {R i:Nat} {cs:Array Value} {t:TypeId} (h:w.heap[R]?=some (.cells cs t (0,0))):w.frozen? ⟨R,i,none⟩=false:=by simp [World.frozen?,h]
theorem put2 {w:World} {R:Nat} {t:TypeId} {p q:Value} (x y:Value) (h:w.heap[R]?=some (.cells #[p,q] t (0,0))):((w.setCell ⟨R,0,none⟩ x).setCell ⟨R,1,none⟩ y).cell? ⟨R,0,none⟩=some x∧((w.setCell ⟨R,0,none⟩ x).setCell ⟨R,1,none⟩ y).cell? ⟨R,1,none⟩=some y:=by
 have b:=hsetB y (hsetA x h)
 exact ⟨cell_of_row _ R 0 _ _ _ b,cell_of_row _ R 1 _ _ _ b⟩
theorem far2 (w:World) (B:Nat) (x y:Value) (k:Nat) (h:k≠B):((w.setCell ⟨B,0,none⟩ x).setCell ⟨B,1,none⟩ y).heap[k]?=w.heap[k]?:=(Below.heap_setCell _ _ _ _ h).trans (Below.heap_setCell _ _ _ _ h)
end Go.Proofs.YticccnkanihpnaaDoor

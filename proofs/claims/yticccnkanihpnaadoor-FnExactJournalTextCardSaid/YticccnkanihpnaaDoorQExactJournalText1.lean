import Derived.WalkKit
import Derived.Deep.QuietTactic
import Derived.BigQuiet
import Derived.WalkSpells
import Derived.Lib.Hide
import Derived.Test.YticccnkanihpnaaDoorProg
import Derived.Deep.RegionHeld3
import Derived.Deep.AppendLies
import Derived.Deep.DrawnRows
import Derived.StillTail
import Derived.Deep.Quiet
import Derived.ArgAppend
import Derived.Laws.IdiomCopy
import Derived.Deep.Upon
import Derived.OwnWalk
import Derived.Deep.RegionLaw
import Derived.Laws.IdiomStrings
import Derived.Laws.BytesString
import Derived.Laws.Concat
namespace Go.Proofs.YticccnkanihpnaaDoor
set_option linter.unusedVariables false
open Go.RowKit
def X (L:List (Int×Int)) (k:Nat):Int:=(L.getD k (0,0)).1
def Y (L:List (Int×Int)) (k:Nat):Int:=(L.getD k (0,0)).2
def prevOf (L:List (Int×Int)) (k:Nat):Int:=if k=0 then 0 else X L (k - 1)
def Cells (w:World) (b off:Nat) (L:List (Int×Int)):Prop :=
 ∀ k,k < L.length->w.cell? ⟨b,off+k * 2,none⟩=some (.int .i64 (X L k))∧w.cell? ⟨b,off+k * 2+1,none⟩=some (.int .i64 (Y L k))
def Cs (w:World) (B:Nat) (A:Option Addr) (L:List (Int×Int)):Prop :=
 0 < L.length->∃ b off,A=some ⟨b,off,none⟩∧b < B∧Cells w b off L
theorem Cs.below {w w':World} {B:Nat} {A:Option Addr} {L:List (Int×Int)} (h:Cs w B A L) (hb:Below B w w'):Cs w' B A L:=by
 intro hn
 obtain ⟨b,off,rfl,hlt,hc⟩:=h hn
 exact ⟨b,off,rfl,hlt,fun k hk=>⟨(hb.cell (p:=⟨b,_,none⟩) hlt).trans (hc k hk).1,(hb.cell (p:=⟨b,_,none⟩) hlt).trans (hc k hk).2⟩⟩
theorem Cs.more {w:World} {B B':Nat} {A:Option Addr} {L:List (Int×Int)} (h:Cs w B A L) (hb:B<=B'):Cs w B' A L:=by
 intro hn
 obtain ⟨b,off,rfl,hlt,hc⟩:=h hn
 exact ⟨b,off,rfl,by omega,hc⟩
theorem Below.drewN {B:Nat} {a w:World} (h:Below B a w) (n:Nat):Below B a (w.drewN n):=⟨h.os,h.tape,h.output,h.size,h.block⟩
end Go.Proofs.YticccnkanihpnaaDoor
namespace Go.Proofs.YticccnkanihpnaaDoor
set_option linter.unusedVariables false
open Go.RowKit
theorem X_take {L:List (Int×Int)} {n k:Nat} (h:k < n):X (L.take n) k=X L k:=by simp [X,h]
theorem Y_take {L:List (Int×Int)} {n k:Nat} (h:k < n):Y (L.take n) k=Y L k:=by simp [Y,h]
theorem Cs.take {w:World} {B:Nat} {A:Option Addr} {L:List (Int×Int)} (h:Cs w B A L) (n:Nat):Cs w B A (L.take n):=by
 intro hn
 simp only [List.length_take] at hn
 obtain ⟨b,off,rfl,hlt,hc⟩:=h (by omega)
 refine ⟨b,off,rfl,hlt,fun k hk=>?_⟩
 simp only [List.length_take] at hk
 rw [X_take (by omega),Y_take (by omega)]
 exact hc k (by omega)
end Go.Proofs.YticccnkanihpnaaDoor
namespace Go.Proofs.YticccnkanihpnaaDoor
set_option linter.unusedVariables false
open Go.RowKit
end Go.Proofs.YticccnkanihpnaaDoor
namespace Go.Proofs.YticccnkanihpnaaDoor
set_option linter.unusedVariables false
open Go.RowKit
end Go.Proofs.YticccnkanihpnaaDoor
namespace Go.Proofs.YticccnkanihpnaaDoor
set_option linter.unusedVariables false
open Go.RowKit
end Go.Proofs.YticccnkanihpnaaDoor
namespace Go.Proofs.YticccnkanihpnaaDoor
set_option linter.unusedVariables false
open Go.RowKit
def waitAt (L:List (Int×Int)):Nat->Int
 | 0=>0
 | k+1=>max (waitAt L k+Y L k - (X L (k+1) - X L k)) 0
def waitsTo (L:List (Int×Int)) (k:Nat):List Int:=(List.range k).map (waitAt L)
end Go.Proofs.YticccnkanihpnaaDoor
namespace Go.Proofs.YticccnkanihpnaaDoor
set_option linter.unusedVariables false
open Go.RowKit
end Go.Proofs.YticccnkanihpnaaDoor
namespace Go.Proofs.YticccnkanihpnaaDoor
set_option linter.unusedVariables false
open Go.RowKit
end Go.Proofs.YticccnkanihpnaaDoor
namespace Go.Proofs.YticccnkanihpnaaDoor
set_option linter.unusedVariables false
open Go.RowKit
def placesTo (L:List (Int×Int)) (b e:Int):Nat->List Int
 | 0=>[]
 | j+1=>if b<=X L j∧X L j<=e - 1 then placesTo L b e j++[(j:Int)] else placesTo L b e j
def places (L:List (Int×Int)) (b e:Int):List Int:=placesTo L b e L.length
section
variable {L:List (Int×Int)} {t:Nat} {B:List (Int×Int)}
end
end Go.Proofs.YticccnkanihpnaaDoor
namespace Go.Proofs.YticccnkanihpnaaDoor
set_option linter.unusedVariables false
open Go.RowKit
set_option maxHeartbeats 400000 in
theorem c_within (a b c:Int) (w:World) :
  Calls Tryd.prog 35 #[.int .i64 a,.int .i64 b,.int .i64 c] w fun e w'=>e=.returned (.bool (decide (b<=a∧a<=c)))∧w=w':=by
 by_cases h1:b<=a
 ·by_cases h2:a<=c
  all_goals
   go_enter Tryd.func35,Tryd.ntmps35
   go_wp2
   go_ret
   exact ⟨by simp [h1,h2],rfl⟩
 ·go_enter Tryd.func35,Tryd.ntmps35
  go_wp2
  go_ret
  exact ⟨by simp;omega,rfl⟩
end Go.Proofs.YticccnkanihpnaaDoor
namespace Go.Proofs.YticccnkanihpnaaDoor
set_option linter.unusedVariables false
open Go.RowKit
set_option maxHeartbeats 400000 in
theorem c_l1In (a b c:Int) (w:World) :
  Calls Tryd.prog 37 #[.int .i64 a,.int .i64 b,.int .i64 c] w fun e w'=>e=.returned (.bool (decide (b<=a∧a<=c)))∧w'=w:=by
 by_cases h1:b<=a
 ·by_cases h2:a<=c
  all_goals
   go_enter Tryd.func37,Tryd.ntmps37
   go_wp2
   go_ret
   exact ⟨by simp [h1,h2],rfl⟩
 ·go_enter Tryd.func37,Tryd.ntmps37
  go_wp2
  go_ret
  exact ⟨by simp;omega,rfl⟩
end Go.Proofs.YticccnkanihpnaaDoor
namespace Go.Proofs.YticccnkanihpnaaDoor
set_option linter.unusedVariables false
open Go.RowKit
def Z (xs:List Int) (k:Nat):Int:=xs.getD k 0
def Is (w:World) (B:Nat) (A:Option Addr) (xs:List Int):Prop :=
 0 < xs.length->∃ b off,A=some ⟨b,off,none⟩∧b < B∧∀ k,k < xs.length->w.cell? ⟨b,off+k,none⟩=some (.int .i64 (Z xs k))
theorem Is.below {w w':World} {B:Nat} {A:Option Addr} {xs:List Int} (h:Is w B A xs) (hb:Below B w w'):Is w' B A xs:=by
 intro hn
 obtain ⟨b,off,rfl,hlt,hc⟩:=h hn
 exact ⟨b,off,rfl,hlt,fun k hk=>(hb.cell (p:=⟨b,_,none⟩) hlt).trans (hc k hk)⟩
theorem Is.more {w:World} {B B':Nat} {A:Option Addr} {xs:List Int} (h:Is w B A xs) (hb:B<=B'):Is w B' A xs:=by
 intro hn
 obtain ⟨b,off,rfl,hlt,hc⟩:=h hn
 exact ⟨b,off,rfl,by omega,hc⟩
def IO (w:World) (base:Nat) (v:Value) (xs:List Int):Prop:=w.ownsRow base 3 1 v xs.length (xs.map (Value.int .i64))
def flatC (L:List (Int×Int)):List Value:=L.flatMap fun c=>[.int .i64 c.1,.int .i64 c.2]
def CO (w:World) (base:Nat) (v:Value) (L:List (Int×Int)):Prop:=w.ownsRow base 63 2 v L.length (flatC L)
theorem flatC_at (L:List (Int×Int)):∀ k,k < L.length->(flatC L)[k * 2]?=some (.int .i64 (X L k))∧(flatC L)[k * 2+1]?=some (.int .i64 (Y L k)):=by
 induction L with
 | nil=>intro k hk;simp at hk
 | cons c L ih =>
  intro k hk
  cases k with
  | zero=>exact ⟨rfl,rfl⟩
  | succ k =>
   have:=ih k (by simpa using hk)
   have e1:(k+1) * 2=k * 2+1+1:=by omega
   simp only [flatC,List.flatMap_cons,e1,List.cons_append,List.nil_append,List.getElem?_cons_succ,X,Y,List.getD_cons_succ] at this ⊢
   exact this
theorem owns_lt {w:World} {base:Nat} {e:TypeId} {size:Nat} {v:Value} {n:Nat} {xs:List Value} (h:w.ownsRow base e size v n xs):∀ k,v.ownBlock=some k->k < w.heap.size:=by
 intro k hk
 rcases h.2 with ⟨rfl,_⟩ | ⟨g,cap,cur,rfl,hg,hh,_⟩
 ·simp [Value.ownBlock] at hk
 ·simp [Value.ownBlock] at hk;subst hk
  rcases Nat.lt_or_ge g w.heap.size with h | h
  ·exact h
  ·rw [Array.getElem?_eq_none h] at hh;cases hh
theorem owns_below {w w':World} {base:Nat} {e:TypeId} {size:Nat} {v:Value} {n:Nat} {xs:List Value} (h:w.ownsRow base e size v n xs) {B:Nat} (hb:Below B w w') (hB:w.heap.size<=B):w'.ownsRow base e size v n xs:=by
 refine ⟨h.1,?_⟩
 have hl:=owns_lt h
 rcases h.2 with h2 | ⟨g,cap,cur,rfl,hg,hh,r⟩
 ·exact .inl h2
 ·have:=hl g (by simp [Value.ownBlock])
  exact .inr ⟨g,cap,cur,rfl,hg,by rw [hb.block g (by omega)];exact hh,r⟩
theorem owns_mono {w:World} {base base':Nat} {e:TypeId} {size:Nat} {v:Value} {n:Nat} {xs:List Value} (h:w.ownsRow base e size v n xs) (hB:base'<=base):w.ownsRow base' e size v n xs:=by
 refine ⟨h.1,?_⟩
 rcases h.2 with h2 | ⟨g,cap,cur,rfl,hg,r⟩
 ·exact .inl h2
 ·exact .inr ⟨g,cap,cur,rfl,by omega,r⟩
theorem IO.nil (w:World) (base:Nat):IO w base (.slice none 0 0) []:=⟨rfl,.inl ⟨rfl,rfl⟩⟩
theorem CO.nil (w:World) (base:Nat):CO w base (.slice none 0 0) []:=⟨rfl,.inl ⟨rfl,rfl⟩⟩
theorem IO.below {w w':World} {base B:Nat} {v:Value} {xs:List Int} (h:IO w base v xs) (hb:Below B w w') (hB:w.heap.size<=B):IO w' base v xs:=owns_below h hb hB
theorem CO.below {w w':World} {base B:Nat} {v:Value} {xs:List (Int×Int)} (h:CO w base v xs) (hb:Below B w w') (hB:w.heap.size<=B):CO w' base v xs:=owns_below h hb hB
theorem IO.mono {w:World} {base base':Nat} {v:Value} {xs:List Int} (h:IO w base v xs) (hB:base'<=base):IO w base' v xs:=owns_mono h hB
theorem CO.mono {w:World} {base base':Nat} {v:Value} {xs:List (Int×Int)} (h:CO w base v xs) (hB:base'<=base):CO w base' v xs:=owns_mono h hB
theorem IO.form {w:World} {base:Nat} {v:Value} {xs:List Int} (h:IO w base v xs):∃ A c,v=.slice A xs.length c∧xs.length<=c∧c<=maxLen∧Is w w.heap.size A xs:=by
 have hl:=owns_lt h
 rcases h.2 with ⟨rfl,h0⟩ | ⟨g,cap,cur,rfl,hg,hh,h1,h2,h3,h4⟩
 ·exact ⟨none,0,by rw [h0],by omega,by simp [maxLen],fun hp=>by omega⟩
 ·refine ⟨_,cap,rfl,h1,h2,fun hp=>⟨g,0,rfl,hl g (by simp [Value.ownBlock]),fun k hk=>?_⟩⟩
  rw [World.ownsRow.cellAt h (0+k) (by omega)]
  simp [Z,hk]
theorem CO.form {w:World} {base:Nat} {v:Value} {L:List (Int×Int)} (h:CO w base v L):∃ A c,v=.slice A L.length c∧L.length<=c∧c<=maxLen∧Cs w w.heap.size A L:=by
 have hl:=owns_lt h
 rcases h.2 with ⟨rfl,h0⟩ | ⟨g,cap,cur,rfl,hg,hh,h1,h2,h3,h4⟩
 ·exact ⟨none,0,by rw [h0],by omega,by simp [maxLen],fun hp=>by omega⟩
 ·refine ⟨_,cap,rfl,h1,h2,fun hp=>⟨g,0,rfl,hl g (by simp [Value.ownBlock]),fun k hk=>?_⟩⟩
  have:=flatC_at L k hk
  refine ⟨?_,?_⟩
  ·rw [Nat.zero_add,World.ownsRow.cellAt h (k * 2) (by omega)];exact this.1
  ·rw [Nat.zero_add,World.ownsRow.cellAt h (k * 2+1) (by omega)];exact this.2
theorem CO.cells {w:World} {base g n c:Nat} {M:List (Int×Int)} (h:CO w base (.slice (some ⟨g,0,none⟩) n c) M) :
  n=M.length∧(∀ k,k < n->w.cell? ⟨g,k * 2,none⟩=some (.int .i64 (X M k))∧w.cell? ⟨g,k * 2+1,none⟩=some (.int .i64 (Y M k)))∧∀ j,w.frozen? ⟨g,j,none⟩=false:=by
 have hn:n=M.length:=by
  rcases h.2 with ⟨h2,_⟩ | ⟨g',cap,cur,h2,_⟩
  ·cases h2
  ·injection h2
 subst hn
 refine ⟨rfl,fun k hk=>?_,fun j=>World.ownsRow.frozenAt h j⟩
 have:=flatC_at M k hk
 exact ⟨(World.ownsRow.cellAt h (k * 2) (by omega)).trans this.1,(World.ownsRow.cellAt h (k * 2+1) (by omega)).trans this.2⟩
theorem IO.cells {w:World} {base g n c:Nat} {M:List Int} (h:IO w base (.slice (some ⟨g,0,none⟩) n c) M) :
  n=M.length∧(∀ k,k < n->w.cell? ⟨g,k,none⟩=some (.int .i64 (Z M k)))∧∀ j,w.frozen? ⟨g,j,none⟩=false:=by
 have hn:n=M.length:=by
  rcases h.2 with ⟨h2,_⟩ | ⟨g',cap,cur,h2,_⟩
  ·cases h2
  ·injection h2
 subst hn
 refine ⟨rfl,fun k hk=>?_,fun j=>World.ownsRow.frozenAt h j⟩
 rw [World.ownsRow.cellAt h k (by omega)]
 simp [Z,hk]
theorem IO.store {w:World} {base g n c:Nat} {M:List Int} (h:IO w base (.slice (some ⟨g,0,none⟩) n c) M) (k:Nat) (x:Int) :
  IO (w.setCell ⟨g,k,none⟩ (.int .i64 x)) base (.slice (some ⟨g,0,none⟩) n c) (M.set k x):=by
 have hn:=h.cells.1
 subst hn
 have h1:=(World.ownsRow.stored (g:=g) (cap:=c) h k (.int .i64 x)).1
 unfold IO
 rw [List.length_set,List.map_set]
 exact h1
theorem IO.alloc {w:World} {base:Nat} {v:Value} {xs:List Int} (h:IO w base v xs) (o:Obj):IO (w.alloc o) base v xs:=World.ownsRow.alloc h o
theorem IO.drew {w:World} {base:Nat} {v:Value} {xs:List Int} (h:IO w base v xs):IO w.drew base v xs:=h
theorem CO.alloc {w:World} {base:Nat} {v:Value} {xs:List (Int×Int)} (h:CO w base v xs) (o:Obj):CO (w.alloc o) base v xs:=World.ownsRow.alloc h o
theorem CO.drew {w:World} {base:Nat} {v:Value} {xs:List (Int×Int)} (h:CO w base v xs):CO w.drew base v xs:=h
section
variable {w:World}
end
end Go.Proofs.YticccnkanihpnaaDoor
namespace Go.Proofs.YticccnkanihpnaaDoor
set_option linter.unusedVariables false
open Go.RowKit
structure WB (B:Nat) (w:World) where
 val:World
 below:Below B w val
instance (B:Nat) (w:World):Nonempty (WB B w):=⟨⟨w,Below.refl _ _⟩⟩
theorem wp_region_wb {P:Program} {id:Nat} {Q:Exit->Act->World->Prop} {a:Act} {w:World} {l:List Oper} (B:Nat) (hm:P.follows .mixedOrders=true) (hB:Region.lexB .any l.toArray=true)
  (h:wpQuiet P l.toArray (fun w'=>∃ s:WB B w,w'=s.val) (fun a'=>∀ w',(∃ s:WB B w,w'=s.val)->Q .normal a' w') l a):(Code.region id l.toArray true).wp P Q a w :=
 wp_region_quiet (C:=fun w'=>∃ s:WB B w,w'=s.val) hm hB ⟨⟨w.drew,(Below.refl _ _).drew⟩,rfl⟩ (by simpa using h)
theorem Calls.inB {P:Program} {f:FuncId} {args:Array Value} {B:Nat} {w:World} {s:WB B w} {v:Value} (hB:B<=w.heap.size)
  (h:Calls P f args s.val fun e w'=>e=.returned v∧Below s.val.heap.size s.val w'):Calls P f args s.val fun e w''=>e=.returned v∧∃ s':WB B w,w''=s'.val :=
 h.mono fun _ w' ⟨he,hb⟩=>⟨he,⟨w',s.below.trans (hb.mono (Nat.le_trans hB s.below.size))⟩,rfl⟩
theorem WB.cell {B:Nat} {w:World} {b o:Nat} {v:Value} (hb:b < B) (h:w.cell? ⟨b,o,none⟩=some v):∀ s:WB B w,s.val.cell? ⟨b,o,none⟩=some v :=
 fun s=>(s.below.cell (p:=⟨b,o,none⟩) hb).trans h
end Go.Proofs.YticccnkanihpnaaDoor
namespace Go.Proofs.YticccnkanihpnaaDoor
set_option linter.unusedVariables false
open Go.RowKit
def HeadQ (P:Program) (md:Region.Mode) (ops:Array Oper) (C:World->Prop) (n:Nat) (L:Array Bool->Act->Prop):Nat->Array Bool->Act->Prop
 | 0,listed,a=>L listed a
 | f+1,listed,a=>Region.ready md ops listed≠[]∧∀ i ∈ Region.ready md ops listed,i < n∧qOp P ops C i (HeadQ P md ops C n L f (listed.setIfInBounds i true)) a
section
variable {P:Program} {ops:Array Oper} {md:Region.Mode} {C:World->Prop} {n g:Nat} {L:Array Bool->Act->Prop}
theorem HeadQ.any {Q:Exit->Act->World->Prop} (hL:∀ listed a w,C w->L listed a->wpAny P md ops Q g listed a w) :
  ∀ (f:Nat) (listed:Array Bool) (a:Act) (w:World),C w->HeadQ P md ops C n L f listed a->wpAny P md ops Q (f+g) listed a w:=by
 intro f
 induction f with
 | zero=>intro listed a w hw h;rw [Nat.zero_add];exact hL _ _ _ hw h
 | succ f ih =>
  intro listed a w hw h
  have e:f+1+g=(f+g)+1:=by omega
  rw [e]
  exact ⟨fun h0=>absurd h0 h.1,fun i hi=>wpOp_of_qOp hw (fun a' w' hw' h'=>ih _ a' w' hw' h') (h.2 i hi).2⟩
end
theorem IO.grownR' {w w':World} {base:Nat} {row:Option Nat} {v:Value} {L:List Int} (h:IO w base v L) (hg:w.grownBy w' row) (hr:∀ r,v.ownBlock=some r->row≠some r):IO w' base v L:=by
 refine ⟨h.1,?_⟩
 have hl:=owns_lt h
 rcases h.2 with h2 | ⟨g,cap,cur,rfl,hgb,hh,rest⟩
 ·exact .inl h2
 ·have:=hl g (by simp [Value.ownBlock])
  exact .inr ⟨g,cap,cur,rfl,hgb,by rw [hg.block g (by omega) (fun e=>hr g (by simp [Value.ownBlock]) (by rw [<- e]))];exact hh,rest⟩
def Sep (lo hi:Nat) (v:Value):Prop:=∀ r,v.ownBlock=some r->r=lo∨hi<=r
def Mid (lo hi:Nat) (w1 w:World):Prop:=∀ b,lo < b->b < hi->w.heap[b]?=w1.heap[b]?
theorem Mid.refl (lo hi:Nat) (w:World):Mid lo hi w w:=fun _ _ _=>rfl
theorem Mid.below {lo hi B:Nat} {w1 w w':World} (h:Mid lo hi w1 w) (hb:Below B w w') (hB:hi<=B):Mid lo hi w1 w':=fun b h1 h2=>(hb.block b (by omega)).trans (h b h1 h2)
theorem Mid.grown {lo hi:Nat} {w1 w w':World} {v:Value} (h:Mid lo hi w1 w) (hs:Sep lo hi v) (hg:w.grownBy w' v.ownBlock) (hB:hi<=w.heap.size):Mid lo hi w1 w':=fun b h1 h2 =>
 (hg.block b (by omega) (fun e=>by have:=hs b e.symm;omega)).trans (h b h1 h2)
theorem Mid.cell {lo hi:Nat} {w1 w:World} (h:Mid lo hi w1 w) {b o:Nat} (h1:lo < b) (h2:b < hi):w.cell? ⟨b,o,none⟩=w1.cell? ⟨b,o,none⟩:=World.cell?_of_block (h b h1 h2)
theorem Sep.nil (lo hi n c:Nat):Sep lo hi (.slice none n c):=fun r e=>by simp [Value.ownBlock] at e
section
variable {w:World}
end
end Go.Proofs.YticccnkanihpnaaDoor
namespace Go.Proofs.YticccnkanihpnaaDoor
set_option linter.unusedVariables false
open Go.RowKit
section
variable {w:World}
end
end Go.Proofs.YticccnkanihpnaaDoor
namespace Go.Proofs.YticccnkanihpnaaDoor
set_option linter.unusedVariables false
open Go.RowKit
structure IOO (w:World) (base:Nat) (v:Value) (xss:List (List Int)) (vs:List Value):Prop where
 row:w.ownsRow base 57 1 v xss.length vs
 inner:∀ k,k < xss.length->IO w base (vs.getD k undef) (xss.getD k [])
 apart:∀ k,k < xss.length->∀ r,(vs.getD k undef).ownBlock=some r->v.ownBlock≠some r
 diff:∀ i j,i < xss.length->j < xss.length->i≠j->∀ r,(vs.getD i undef).ownBlock=some r->(vs.getD j undef).ownBlock≠some r
theorem IOO.len {w:World} {base:Nat} {v:Value} {xss:List (List Int)} {vs:List Value} (h:IOO w base v xss vs):vs.length=xss.length:=by
 have:=h.row.1
 omega
theorem IOO.nil (w:World) (base:Nat):IOO w base (.slice none 0 0) [] []:=⟨⟨rfl,.inl ⟨rfl,rfl⟩⟩,fun k h=>by simp at h,fun k h=>by simp at h,fun i j h=>by simp at h⟩
theorem IOO.below {w w':World} {base B:Nat} {v:Value} {xss:List (List Int)} {vs:List Value} (h:IOO w base v xss vs) (hb:Below B w w') (hB:w.heap.size<=B):IOO w' base v xss vs :=
 ⟨owns_below h.row hb hB,fun k hk=>(h.inner k hk).below hb hB,h.apart,h.diff⟩
theorem IOO.mono {w:World} {base base':Nat} {v:Value} {xss:List (List Int)} {vs:List Value} (h:IOO w base v xss vs) (hB:base'<=base):IOO w base' v xss vs :=
 ⟨owns_mono h.row hB,fun k hk=>(h.inner k hk).mono hB,h.apart,h.diff⟩
theorem IOO.form {w:World} {base:Nat} {v:Value} {xss:List (List Int)} {vs:List Value} (h:IOO w base v xss vs) :
  ∃ A c,v=.slice A xss.length c∧xss.length<=c∧c<=maxLen∧(0 < xss.length->∃ g,A=some ⟨g,0,none⟩∧base<=g∧g < w.heap.size∧(∀ k,k < xss.length->w.cell? ⟨g,k,none⟩=some (vs.getD k undef))∧∀ j,w.frozen? ⟨g,j,none⟩=false):=by
 have hl:=owns_lt h.row
 have hn:=h.len
 rcases h.row.2 with ⟨rfl,h0⟩ | ⟨g,cap,cur,rfl,hg,hh,h1,h2,h3,h4⟩
 ·exact ⟨none,0,by rw [h0],by omega,by simp [maxLen],fun hp=>by omega⟩
 ·refine ⟨_,cap,rfl,h1,h2,fun _=>⟨g,rfl,hg,hl g (by simp [Value.ownBlock]),fun k hk=>?_,fun j=>World.ownsRow.frozenAt h.row j⟩⟩
  rw [World.ownsRow.cellAt h.row k (by omega)]
  simp [List.getD,List.getElem?_eq_getElem (show k < vs.length by omega)]
theorem IOO.cells {w:World} {base g n c:Nat} {xss:List (List Int)} {vs:List Value} (h:IOO w base (.slice (some ⟨g,0,none⟩) n c) xss vs) :
  n=xss.length∧(∀ k,k < n->w.cell? ⟨g,k,none⟩=some (vs.getD k undef))∧∀ j,w.frozen? ⟨g,j,none⟩=false:=by
 have hn:n=xss.length:=by
  rcases h.row.2 with ⟨h2,_⟩ | ⟨g',cap,cur,h2,_⟩
  ·cases h2
  ·injection h2
 subst hn
 refine ⟨rfl,fun k hk=>?_,fun j=>World.ownsRow.frozenAt h.row j⟩
 have:=h.len
 rw [World.ownsRow.cellAt h.row k (by omega)]
 simp [List.getD,List.getElem?_eq_getElem (show k < vs.length by omega)]
end Go.Proofs.YticccnkanihpnaaDoor
namespace Go.Proofs.YticccnkanihpnaaDoor
set_option linter.unusedVariables false
open Go.RowKit
def Bs (w:World) (B:Nat) (A:Option Addr) (n:Nat):Prop :=
 0 < n->∃ b off,A=some ⟨b,off,none⟩∧b < B∧∀ k,k < n->∃ y:Int,w.cell? ⟨b,off+k,none⟩=some (.int .u8 y)∧0<=y∧y<=255
theorem Bs.keep {w w':World} {B:Nat} {A:Option Addr} {n:Nat} (h:Bs w B A n) (hb:∀ k,k < B->w'.heap[k]?=w.heap[k]?):Bs w' B A n:=by
 intro hn
 obtain ⟨b,off,rfl,hlt,hc⟩:=h hn
 refine ⟨b,off,rfl,hlt,fun k hk=>?_⟩
 obtain ⟨y,h1,h2⟩:=hc k hk
 exact ⟨y,(World.cell?_of_block (w:=w) (hb b hlt)).trans h1,h2⟩
def Rd (w:World) (base r p:Nat):Prop :=
 base<=r∧r < w.heap.size∧∃ A n c,n<=2000∧w.heap[r]?=some (.cells #[.slice A n c,.int .i64 p] 89 (0,0))∧Bs w base A n
theorem grown_set (w:World) (r o:Nat) (u:Value):w.grownBy (w.setCell ⟨r,o,none⟩ u) (some r) :=
 ⟨rfl,rfl,rfl,by simp [World.setCell],fun k _ hne=>Below.heap_setCell _ _ _ _ (fun e=>hne (by rw [e]))⟩
theorem grown_drewN {w w':World} {row:Option Nat} (h:w.grownBy w' row) (n:Nat):w.grownBy (w'.drewN n) row:=⟨h.os,h.tape,h.output,h.size,h.block⟩
theorem Rd.grown {w w':World} {base r p:Nat} (h:Rd w base r p) (hg:Below w.heap.size w w'):Rd w' base r p:=by
 obtain ⟨h1,h2,A,n,c,hn,hh,hb⟩:=h
 exact ⟨h1,Nat.lt_of_lt_of_le h2 hg.size,A,n,c,hn,(hg.block r h2).trans hh,hb.keep fun k hk=>hg.block k (by omega)⟩
theorem Rd.set {w:World} {base r p:Nat} {A:Option Addr} {n c:Nat} (h1:base<=r) (h2:r < w.heap.size) (hn:n<=2000) (hh:w.heap[r]?=some (.cells #[.slice A n c,.int .i64 p] 89 (0,0)))
  (hb:Bs w base A n) (nq:Nat):w.grownBy ((w.setCell ⟨r,1,none⟩ (.int .i64 (p+1))).drewN nq) (some r)∧Rd ((w.setCell ⟨r,1,none⟩ (.int .i64 (p+1))).drewN nq) base r (p+1):=by
 refine ⟨grown_drewN (grown_set _ _ _ _) nq,h1,?_,A,n,c,hn,?_,hb.keep fun k hk=>Below.heap_setCell _ _ _ _ (by simp;omega)⟩
 ·show r < (w.setCell _ _).heap.size
  simp [World.setCell];exact h2
 ·show (w.setCell _ _).heap[r]?=_
  simp [World.setCell,Array.getElem?_modify,hh]
end Go.Proofs.YticccnkanihpnaaDoor
namespace Go.Proofs.YticccnkanihpnaaDoor
set_option linter.unusedVariables false
open Go.RowKit
theorem CO.grown {w w':World} {base r:Nat} {v:Value} {L:List (Int×Int)} (h:CO w base v L) (hg:w.grownBy w' (some r)) (hr:r < base):CO w' base v L:=by
 refine ⟨h.1,?_⟩
 have hl:=owns_lt h
 rcases h.2 with h2 | ⟨g,cap,cur,rfl,hgb,hh,rest⟩
 ·exact .inl h2
 ·have:=hl g (by simp [Value.ownBlock])
  exact .inr ⟨g,cap,cur,rfl,hgb,by rw [hg.block g (by omega) (by simp;omega)];exact hh,rest⟩
end Go.Proofs.YticccnkanihpnaaDoor
namespace Go.Proofs.YticccnkanihpnaaDoor
set_option linter.unusedVariables false
open Go.RowKit
attribute [local go_sem ↓] Go.wp_at_zero Go.wp_at_succ
def wv (L:List (Int×Int)):Nat->Int
 | 0=>0
 | k+1=>waitAt L k
def ay (L:List (Int×Int)):Nat->Int
 | 0=>0
 | k+1=>Y L k
structure WInv (L:List (Int×Int)) (w:World) (B p q b:Nat) (k:Nat) (v:Value) (W:World):Prop where
 below:Below B w W
 hp:B<=p
 hpq:p < q
 hqb:q < b
 hb:b<=W.heap.size
 cp:W.heap[p]?=some (.cells #[.int .i64 (wv L k)] 3 (0,0))
 cq:W.heap[q]?=some (.cells #[.int .i64 (prevOf L k),.int .i64 (ay L k)] 63 (0,0))
 own:IO W b v (waitsTo L k)
theorem WInv.keep {L:List (Int×Int)} {w:World} {B p q b k:Nat} {v:Value} {W W':World} (h:WInv L w B p q b k v W) (hW:Below W.heap.size W W'):WInv L w B p q b k v W':=by
 obtain ⟨h1,h2,h3,h4,h5,h6,h7,h8⟩:=h
 have hs:=hW.size
 exact ⟨h1.trans (hW.mono (by omega)),h2,h3,h4,by omega,(hW.block p (by omega)).trans h6,(hW.block q (by omega)).trans h7,h8.below hW (Nat.le_refl _)⟩
end Go.Proofs.YticccnkanihpnaaDoor
namespace Go.Proofs.YticccnkanihpnaaDoor
set_option linter.unusedVariables false
open Go.RowKit
attribute [local go_sem ↓] Go.wp_at_zero Go.wp_at_succ
end Go.Proofs.YticccnkanihpnaaDoor
namespace Go.Proofs.YticccnkanihpnaaDoor
set_option linter.unusedVariables false
open Go.RowKit
attribute [local go_sem ↓] Go.wp_at_zero Go.wp_at_succ
theorem flatC_set (x y:Int):∀ (L:List (Int×Int)) (k:Nat),flatC (L.set k (x,y))=((flatC L).set (k * 2) (.int .i64 x)).set (k * 2+1) (.int .i64 y)
 | [],k=>by simp [flatC]
 | c::L,0=>by simp [flatC]
 | c::L,k+1=>by
  have ih:=flatC_set x y L k
  have e1:(k+1) * 2=k * 2+1+1:=by omega
  simp only [List.set_cons_succ,e1]
  simp only [flatC,List.flatMap_cons,List.cons_append,List.nil_append,List.set_cons_succ] at ih ⊢
  rw [ih]
theorem CO.store {w:World} {base g n c:Nat} {M:List (Int×Int)} (h:CO w base (.slice (some ⟨g,0,none⟩) n c) M) (k:Nat) (x y:Int) :
  CO ((w.setCell ⟨g,k * 2,none⟩ (.int .i64 x)).setCell ⟨g,k * 2+1,none⟩ (.int .i64 y)) base (.slice (some ⟨g,0,none⟩) n c) (M.set k (x,y)):=by
 have hn:n=M.length:=by
  rcases h.2 with ⟨h2,_⟩ | ⟨g',cap,cur,h2,_⟩
  ·cases h2
  ·injection h2
 subst hn
 have h1:=(World.ownsRow.stored (g:=g) (cap:=c) h (k * 2) (.int .i64 x)).1
 have h2:=(World.ownsRow.stored (g:=g) (cap:=c) h1 (k * 2+1) (.int .i64 y)).1
 unfold CO
 rw [flatC_set,List.length_set]
 exact h2
theorem madeAt (z:Array Value) (n j:Nat) (h:j < n):(madeCells z n).toList[j]?=some (z[j % z.size]!):=by
 simp [madeCells,h]
end Go.Proofs.YticccnkanihpnaaDoor
namespace Go.Proofs.YticccnkanihpnaaDoor
set_option linter.unusedVariables false
open Go.RowKit
theorem CO.grownR' {w w':World} {base:Nat} {row:Option Nat} {v:Value} {L:List (Int×Int)} (h:CO w base v L) (hg:w.grownBy w' row) (hr:∀ r,v.ownBlock=some r->row≠some r):CO w' base v L:=by
 have hl:=owns_lt h
 refine ⟨h.1,?_⟩
 rcases h.2 with h2 | ⟨g,cap,cur,rfl,hgb,hh,rest⟩
 ·exact .inl h2
 ·have:=hl g (by simp [Value.ownBlock])
  exact .inr ⟨g,cap,cur,rfl,hgb,by rw [hg.block g (by omega) (fun e=>hr g (by simp [Value.ownBlock]) e.symm)];exact hh,rest⟩
section
variable {w:World}
end
structure COO (w:World) (base:Nat) (v:Value) (xss:List (List (Int×Int))) (vs:List Value):Prop where
 row:w.ownsRow base 51 1 v xss.length vs
 inner:∀ k,k < xss.length->CO w base (vs.getD k undef) (xss.getD k [])
 apart:∀ k,k < xss.length->∀ r,(vs.getD k undef).ownBlock=some r->v.ownBlock≠some r
 diff:∀ i j,i < xss.length->j < xss.length->i≠j->∀ r,(vs.getD i undef).ownBlock=some r->(vs.getD j undef).ownBlock≠some r
theorem COO.len {w:World} {base:Nat} {v:Value} {xss:List (List (Int×Int))} {vs:List Value} (h:COO w base v xss vs):vs.length=xss.length:=by
 have:=h.row.1
 omega
theorem COO.nil (w:World) (base:Nat):COO w base (.slice none 0 0) [] []:=⟨⟨rfl,.inl ⟨rfl,rfl⟩⟩,fun k h=>by simp at h,fun k h=>by simp at h,fun i j h=>by simp at h⟩
theorem COO.below {w w':World} {base B:Nat} {v:Value} {xss:List (List (Int×Int))} {vs:List Value} (h:COO w base v xss vs) (hb:Below B w w') (hB:w.heap.size<=B):COO w' base v xss vs :=
 ⟨owns_below h.row hb hB,fun k hk=>(h.inner k hk).below hb hB,h.apart,h.diff⟩
theorem COO.mono {w:World} {base base':Nat} {v:Value} {xss:List (List (Int×Int))} {vs:List Value} (h:COO w base v xss vs) (hB:base'<=base):COO w base' v xss vs :=
 ⟨owns_mono h.row hB,fun k hk=>(h.inner k hk).mono hB,h.apart,h.diff⟩
theorem COO.form {w:World} {base:Nat} {v:Value} {xss:List (List (Int×Int))} {vs:List Value} (h:COO w base v xss vs) :
  ∃ A c,v=.slice A xss.length c∧xss.length<=c∧c<=maxLen∧(0 < xss.length->∃ g,A=some ⟨g,0,none⟩∧base<=g∧g < w.heap.size∧(∀ k,k < xss.length->w.cell? ⟨g,k,none⟩=some (vs.getD k undef))∧∀ j,w.frozen? ⟨g,j,none⟩=false):=by
 have hl:=owns_lt h.row
 have hn:=h.len
 rcases h.row.2 with ⟨rfl,h0⟩ | ⟨g,cap,cur,rfl,hg,hh,h1,h2,h3,h4⟩
 ·exact ⟨none,0,by rw [h0],by omega,by simp [maxLen],fun hp=>by omega⟩
 ·refine ⟨_,cap,rfl,h1,h2,fun _=>⟨g,rfl,hg,hl g (by simp [Value.ownBlock]),fun k hk=>?_,fun j=>World.ownsRow.frozenAt h.row j⟩⟩
  rw [World.ownsRow.cellAt h.row k (by omega)]
  simp [List.getD,List.getElem?_eq_getElem (show k < vs.length by omega)]
theorem COO.cells {w:World} {base g n c:Nat} {xss:List (List (Int×Int))} {vs:List Value} (h:COO w base (.slice (some ⟨g,0,none⟩) n c) xss vs) :
  n=xss.length∧(∀ k,k < n->w.cell? ⟨g,k,none⟩=some (vs.getD k undef))∧∀ j,w.frozen? ⟨g,j,none⟩=false:=by
 have hn:n=xss.length:=by
  rcases h.row.2 with ⟨h2,_⟩ | ⟨g',cap,cur,h2,_⟩
  ·cases h2
  ·injection h2
 subst hn
 refine ⟨rfl,fun k hk=>?_,fun j=>World.ownsRow.frozenAt h.row j⟩
 have:=h.len
 rw [World.ownsRow.cellAt h.row k (by omega)]
 simp [List.getD,List.getElem?_eq_getElem (show k < vs.length by omega)]
end Go.Proofs.YticccnkanihpnaaDoor
namespace Go.Proofs.YticccnkanihpnaaDoor
set_option linter.unusedVariables false
open Go.RowKit
def dig8 (n:Nat):UInt8:=UInt8.ofNat (48+n % 10)
def numL (n:Nat):List UInt8:=if n < 10 then [dig8 n] else numL (n / 10)++[dig8 n]
termination_by n
theorem numL_one {n:Nat} (h:n < 10):numL n=[dig8 n]:=by rw [numL,if_pos h]
theorem numL_more {n:Nat} (h:¬ n < 10):numL n=numL (n / 10)++[dig8 n]:=by rw [numL,if_neg h]
theorem dig8_nat (n:Nat):(dig8 n).toNat=48+n % 10:=by
 have:n % 10 < 10:=Nat.mod_lt _ (by omega)
 simp [dig8,UInt8.toNat_ofNat'];omega
theorem numL_len:∀ (k n:Nat),n < 10 ^ (k+1)->(numL n).length<=k+1:=by
 intro k
 induction k with
 | zero=>intro n h;rw [numL_one (by simpa using h)];simp
 | succ k ih =>
  intro n h
  by_cases h1:n < 10
  ·rw [numL_one h1];simp
  ·rw [numL_more h1]
   have:=ih (n / 10) (by rw [Nat.pow_succ] at h;omega)
   simp;omega
structure DV where
 k:Int
 a:Int
 b:Int
deriving DecidableEq
def wCome:List UInt8:=[99,111,109,101]
def wNeed:List UInt8:=[110,101,101,100]
def wLater:List UInt8:=[108,97,116,101,114]
def wGo:List UInt8:=[103,111]
def wBack:List UInt8:=[98,97,99,107]
def deedL (d:DV):List UInt8 :=
 if d.k=0∧(0<=d.a∧d.a<=99)∧(0<=d.b∧d.b<=99) then wCome++[32]++numL d.a.toNat++[32]++numL d.b.toNat
 else if d.k=2∧(0<=d.a∧d.a<=99)∧d.b=0 then wNeed++[32]++numL d.a.toNat
 else if d.k=3∧(0<=d.a∧d.a<=99)∧d.b=0 then wLater++[32]++numL d.a.toNat
 else if d=⟨1,0,0⟩ then wGo
 else if d=⟨4,0,0⟩ then wBack
 else []
theorem deed_ways (d:DV):deedL d=[]∨(d.k=0∧(0<=d.a∧d.a<=99)∧(0<=d.b∧d.b<=99)∧deedL d=wCome++[32]++numL d.a.toNat++[32]++numL d.b.toNat)
  ∨ (d.k=2∧(0<=d.a∧d.a<=99)∧d.b=0∧deedL d=wNeed++[32]++numL d.a.toNat)
  ∨ (d.k=3∧(0<=d.a∧d.a<=99)∧d.b=0∧deedL d=wLater++[32]++numL d.a.toNat)
  ∨ (d=⟨1,0,0⟩∧deedL d=wGo)∨(d=⟨4,0,0⟩∧deedL d=wBack):=by
 unfold deedL
 split
 ·rename_i h;exact .inr (.inl ⟨h.1,h.2.1,h.2.2,rfl⟩)
 ·split
  ·rename_i h;exact .inr (.inr (.inl ⟨h.1,h.2.1,h.2.2,rfl⟩))
  ·split
   ·rename_i h;exact .inr (.inr (.inr (.inl ⟨h.1,h.2.1,h.2.2,rfl⟩)))
   ·split
    ·rename_i h;exact .inr (.inr (.inr (.inr (.inl ⟨h,rfl⟩))))
    ·split
     ·rename_i h;exact .inr (.inr (.inr (.inr (.inr ⟨h,rfl⟩))))
     ·exact .inl rfl
end Go.Proofs.YticccnkanihpnaaDoor
namespace Go.Proofs.YticccnkanihpnaaDoor
set_option linter.unusedVariables false
open Go.RowKit
def jTo (L:List DV):List UInt8:=L.flatMap fun d=>deedL d++[10]
def jOk (L:List DV):Bool:=L.all fun d=>!(deedL d).isEmpty
def journalL (L:List DV):List UInt8:=if jOk L=true then jTo L else []
theorem jTo_snoc (L:List DV) (d:DV):jTo (L++[d])=jTo L++deedL d++[10]:=by simp [jTo]
theorem jOk_snoc (L:List DV) (d:DV):jOk (L++[d])=(jOk L && !(deedL d).isEmpty):=by simp [jOk]
end Go.Proofs.YticccnkanihpnaaDoor
namespace Go.Proofs.YticccnkanihpnaaDoor
set_option linter.unusedVariables false
open Go.RowKit
structure KV where
 now:List (Int×Int)
 past:List (List (Int×Int))
def noK:KV:=⟨[],[]⟩
end Go.Proofs.YticccnkanihpnaaDoor
namespace Go.Proofs.YticccnkanihpnaaDoor
set_option linter.unusedVariables false
open Go.RowKit
def LL (Ls:List (List (Int×Int))) (k:Nat):List (Int×Int):=Ls.getD k []
def Css (w:World) (B:Nat) (A:Option Addr) (Ls:List (List (Int×Int))):Prop :=
 0 < Ls.length->∃ b off,A=some ⟨b,off,none⟩∧b < B∧∀ k,k < Ls.length->∃ Ak ck,w.cell? ⟨b,off+k,none⟩=some (.slice Ak (LL Ls k).length ck)∧(LL Ls k).length<=ck∧Cs w B Ak (LL Ls k)
theorem Css.below {w w':World} {B:Nat} {A:Option Addr} {Ls:List (List (Int×Int))} (h:Css w B A Ls) (hb:Below B w w'):Css w' B A Ls:=by
 intro hn
 obtain ⟨b,off,rfl,hlt,hc⟩:=h hn
 refine ⟨b,off,rfl,hlt,fun k hk=>?_⟩
 obtain ⟨Ak,ck,h1,h2,h3⟩:=hc k hk
 exact ⟨Ak,ck,(hb.cell (p:=⟨b,_,none⟩) hlt).trans h1,h2,h3.below hb⟩
theorem Css.more {w:World} {B B':Nat} {A:Option Addr} {Ls:List (List (Int×Int))} (h:Css w B A Ls) (hb:B<=B'):Css w B' A Ls:=by
 intro hn
 obtain ⟨b,off,rfl,hlt,hc⟩:=h hn
 refine ⟨b,off,rfl,by omega,fun k hk=>?_⟩
 obtain ⟨Ak,ck,h1,h2,h3⟩:=hc k hk
 exact ⟨Ak,ck,h1,h2,h3.more hb⟩
theorem Css.nil (w:World) (B:Nat) (A:Option Addr):Css w B A []:=fun h=>by simp at h
structure PL (w:World) (base:Nat) (v:Value) (Ls:List (List (Int×Int))) (vs:List Value):Prop where
 row:(v=.slice none 0 0∧Ls=[])∨∃ g off c,v=.slice (some ⟨g,off,none⟩) Ls.length c∧Ls.length<=c∧c<=maxLen∧base<=g∧g < w.heap.size ∧
  (∀ k,k < Ls.length->w.cell? ⟨g,off+k,none⟩=some (vs.getD k undef))∧∀ j,j < c->(w.cell? ⟨g,off+j,none⟩).isSome=true∧w.frozen? ⟨g,off+j,none⟩=false
 len:vs.length=Ls.length
 inner:∀ k,k < Ls.length->CO w base (vs.getD k undef) (LL Ls k)
 apart:∀ k,k < Ls.length->∀ r,(vs.getD k undef).ownBlock=some r->v.ownBlock≠some r
 diff:∀ i j,i < Ls.length->j < Ls.length->i≠j->∀ r,(vs.getD i undef).ownBlock=some r->(vs.getD j undef).ownBlock≠some r
theorem PL.kept {w w':World} {base:Nat} {row:Option Nat} {v:Value} {Ls:List (List (Int×Int))} {vs:List Value} (h:PL w base v Ls vs) (hg:w.grownBy w' row) (hr:∀ r,v.ownBlock=some r->row≠some r)
  (hri:∀ k,k < Ls.length->∀ r,(vs.getD k undef).ownBlock=some r->row≠some r):PL w' base v Ls vs:=by
 refine ⟨?_,h.len,fun k hk=>(h.inner k hk).grownR' hg (hri k hk),h.apart,h.diff⟩
 rcases h.row with h0 | ⟨g,off,c,rfl,h1,h2,h3,h4,h5,h6⟩
 ·exact .inl h0
 ·have hb:∀ o,(w'.heap[(⟨g,o,none⟩:Addr).block]?)=w.heap[(⟨g,o,none⟩:Addr).block]?:=fun o=>hg.block g h4 fun e=>hr g (by simp [Value.ownBlock]) e.symm
  exact .inr ⟨g,off,c,rfl,h1,h2,h3,Nat.lt_of_lt_of_le h4 hg.size,fun j hj=>(World.cell?_of_block (hb _)).trans (h5 j hj),fun j hj=>by
   have:=h6 j hj
   rw [World.cell?_of_block (hb _),World.frozen?_of_block (hb _)]
   exact this⟩
theorem PL.below {w w':World} {base B:Nat} {v:Value} {Ls:List (List (Int×Int))} {vs:List Value} (h:PL w base v Ls vs) (hb:Below B w w') (hB:w.heap.size<=B):PL w' base v Ls vs :=
 h.kept (row:=none) ⟨hb.os,hb.tape,hb.output,hb.size,fun k hk _=>hb.block k (by omega)⟩ (fun _ _ e=>by cases e) (fun _ _ _ _ e=>by cases e)
theorem PL.mono {w:World} {base base':Nat} {v:Value} {Ls:List (List (Int×Int))} {vs:List Value} (h:PL w base v Ls vs) (hB:base'<=base):PL w base' v Ls vs:=by
 refine ⟨?_,h.len,fun k hk=>(h.inner k hk).mono hB,h.apart,h.diff⟩
 rcases h.row with h0 | ⟨g,off,c,rfl,h1,h2,h3,h4,h5,h6⟩
 ·exact .inl h0
 ·exact .inr ⟨g,off,c,rfl,h1,h2,by omega,h4,h5,h6⟩
theorem PL.nil (w:World) (base:Nat):PL w base (.slice none 0 0) [] []:=⟨.inl ⟨rfl,rfl⟩,rfl,fun k h=>by simp at h,fun k h=>by simp at h,fun i j h=>by simp at h⟩
structure KO (w:World) (base:Nat) (vn vp:Value) (D:KV) (vs:List Value):Prop where
 now:CO w base vn D.now
 past:PL w base vp D.past vs
 apn:∀ r,vn.ownBlock=some r->vp.ownBlock≠some r
 api:∀ k,k < D.past.length->∀ r,(vs.getD k undef).ownBlock=some r->vn.ownBlock≠some r
theorem KO.below {w w':World} {base B:Nat} {vn vp:Value} {D:KV} {vs:List Value} (h:KO w base vn vp D vs) (hb:Below B w w') (hB:w.heap.size<=B):KO w' base vn vp D vs:=⟨h.now.below hb hB,h.past.below hb hB,h.apn,h.api⟩
theorem KO.mono {w:World} {base base':Nat} {vn vp:Value} {D:KV} {vs:List Value} (h:KO w base vn vp D vs) (hB:base'<=base):KO w base' vn vp D vs:=⟨h.now.mono hB,h.past.mono hB,h.apn,h.api⟩
theorem KO.zero (w:World) (base:Nat):KO w base (.slice none 0 0) (.slice none 0 0) noK []:=⟨CO.nil _ _,PL.nil _ _,fun r h=>by simp [Value.ownBlock] at h,fun k h=>by simp [noK] at h⟩
structure Ks (w:World) (B:Nat) (vn vp:Value) (D:KV):Prop where
 now:∃ A c,vn=.slice A D.now.length c∧D.now.length<=c∧Cs w B A D.now
 past:∃ A c,vp=.slice A D.past.length c∧D.past.length<=c∧Css w B A D.past
theorem Ks.below {w w':World} {B:Nat} {vn vp:Value} {D:KV} (h:Ks w B vn vp D) (hb:Below B w w'):Ks w' B vn vp D:=by
 obtain ⟨⟨A,c,e1,e2,e3⟩,A',c',e4,e5,e6⟩:=h
 exact ⟨⟨A,c,e1,e2,e3.below hb⟩,A',c',e4,e5,e6.below hb⟩
theorem Ks.more {w:World} {B B':Nat} {vn vp:Value} {D:KV} (h:Ks w B vn vp D) (hb:B<=B'):Ks w B' vn vp D:=by
 obtain ⟨⟨A,c,e1,e2,e3⟩,A',c',e4,e5,e6⟩:=h
 exact ⟨⟨A,c,e1,e2,e3.more hb⟩,A',c',e4,e5,e6.more hb⟩
end Go.Proofs.YticccnkanihpnaaDoor
namespace Go.Proofs.YticccnkanihpnaaDoor
set_option linter.unusedVariables false
open Go.RowKit
attribute [local go_sem ↓] Go.wp_at_zero Go.wp_at_succ
structure KCO (w:World) (base:Nat) (vn vp:Value) (D:KV) (vs:List Value):Prop where
 now:CO w base vn D.now
 past:COO w base vp D.past vs
 apn:∀ r,vn.ownBlock=some r->vp.ownBlock≠some r
 api:∀ k,k < D.past.length->∀ r,(vs.getD k undef).ownBlock=some r->vn.ownBlock≠some r
end Go.Proofs.YticccnkanihpnaaDoor
namespace Go.Proofs.YticccnkanihpnaaDoor
set_option linter.unusedVariables false
open Go.RowKit
attribute [local go_sem ↓] Go.wp_at_zero Go.wp_at_succ
def bs (l:List UInt8):ByteArray:=⟨l.toArray⟩
theorem bs_append (x y:List UInt8):bs x++bs y=bs (x++y):=ByteArray.mk_append_mk x y
theorem bs_size (x:List UInt8):(bs x).size=x.length:=by simp [bs,ByteArray.size]
theorem bs_list (x:List UInt8):(bs x).toList=x:=ByteArray.toList_mk x
theorem run_conv1 (c:UInt8) (x:Int) (hx:x=(c.toNat:Int)) (w:World) :
  (convert 22 9 (.slice (some ⟨w.heap.size,0,none⟩) 1 1)).run Tryd.prog (w.alloc (.cells #[.int .u8 x] 5))=.ok (.string (bs [c])) (w.alloc (.cells #[.int .u8 x] 5)):=by
 have:=run_convert_bytes_back (P:=Tryd.prog) (w.alloc (.cells #[.int .u8 x] 5)) 22 9 5 ⟨w.heap.size,0,none⟩ 1 [c] Tryd.underlying22 Tryd.underlying5 Tryd.underlying9
  (fun j hj=>by
    have hj0:j=0:=by simpa using hj
    subst hj0
    have:=World.cell?_alloc_mark w #[.int .u8 x] 5 (0,0) 0
    simp [Addr.add,hx] at this ⊢)
 exact this
theorem run_conv2 (c:UInt8) (x:Int) (hx:x=(c.toNat:Int)) (w:World) (B:Nat) (hc:w.cell? ⟨B,0,none⟩=some (.int .u8 x)) :
  (convert 22 9 (.slice (some ⟨B,0,none⟩) 1 1)).run Tryd.prog w=.ok (.string (bs [c])) w :=
 run_convert_bytes_back (P:=Tryd.prog) w 22 9 5 ⟨B,0,none⟩ 1 [c] Tryd.underlying22 Tryd.underlying5 Tryd.underlying9
  (fun j hj=>by
    have hj0:j=0:=by simpa using hj
    subst hj0
    simpa [Addr.add,hx] using hc)
set_option maxRecDepth 8000 in
set_option maxHeartbeats 2000000 in
theorem c_sNumber:∀ (n:Nat) (w:World),n<=1000000000 ->
  Calls Tryd.prog 38 #[.int .i64 (n:Int)] w fun e w'=>e=.returned (.string (bs (numL n)))∧Below w.heap.size w w':=by
 intro n
 induction n using Nat.strongRecOn with
 | _ n ih =>
  intro w hn
  have hd:=dig8_nat n
  by_cases h:n < 10
  ·have hE:=Lib.hid (numL_one h)
   have d1:decide ((n:Int) < 10)=true:=decide_eq_true (by omega)
   have p0:¬ ((n:Int) < 0):=by omega
   have p1:(0:Int)<=(n:Int):=by omega
   have q1:IntKind.i64.wrap (48+(n:Int))=48+(n:Int):=IntWalk.i64_in _ (by omega)
   have hcv:=run_conv1 (dig8 n) (48+(n:Int)) (by omega) w
   have hbz:Below w.heap.size w (w.alloc (.cells #[.int .u8 (48+(n:Int))] 5)):=by (repeat (first | exact rfl | exact Below.refl _ _ | (with_reducible refine Below.drew ?_) | (with_reducible refine Below.drewN ?_ _) | (with_reducible refine Below.alloc ?_ ?_ _) | (with_reducible refine Below.setCell ?_ ?_ _) | (show _<=_;focus (first | omega | (simp;done) | (simp;omega)))))
   clear ih hd
   go_enter Tryd.func38,Tryd.ntmps38
   go_wp2_with fail
   go_ret
   exact ⟨by rw [hE.out];rfl,hbz⟩
  ·have hE0:=numL_more h
   have hb9:n % 10 < 10:=Nat.mod_lt _ (by omega)
   have hl9:=numL_len 8 (n / 10) (by omega)
   obtain ⟨m,hm⟩:∃ m:Nat,n / 10=m:=⟨_,rfl⟩
   obtain ⟨r,hr⟩:∃ r:Nat,n % 10=r:=⟨_,rfl⟩
   have d1:decide ((n:Int) < 10)=false:=decide_eq_false (by omega)
   have q2:(n:Int).tdiv 10=(m:Int):=by rw [Int.tdiv_eq_ediv_of_nonneg (by omega)];omega
   have q3:(n:Int).tmod 10=(r:Int):=by rw [Int.tmod_eq_emod_of_nonneg (by omega)];omega
   have q4:IntKind.i64.wrap (48+(r:Int))=48+(r:Int):=IntWalk.i64_in _ (by omega)
   have q5:IntKind.i64.wrap (m:Int)=(m:Int):=IntWalk.i64_in _ (by omega)
   have hcv:=fun W=>run_conv1 (dig8 n) (48+(r:Int)) (by omega) W
   have hcv2:=fun W B=>run_conv2 (dig8 n) (48+(r:Int)) (by omega) W B
   have q6:IntKind.u8.wrap (48+(r:Int))=48+(r:Int):=by show (48+(r:Int)) % 256=_;omega
   have HC:=Lib.hid (fun W=>ih m (by omega) W (by omega))
   rw [hm] at hl9 hE0
   have hE:=Lib.hid hE0
   have z1:(bs (numL m)).size<=9:=by rw [bs_size];omega
   have z2:(bs [dig8 n]).size=1:=by rw [bs_size];rfl
   have hz:¬ ((bs (numL m)).size+(bs [dig8 n]).size > 9223372036854775807):=by omega
   generalize hdg:dig8 n=dg at *
   have HDG:=Lib.hid hdg
   generalize hnm:numL m=nm at *
   clear ih hd hE0 hdg hnm h hb9 hl9 hm hr z1 z2
   go_enter Tryd.func38,Tryd.ntmps38
   go_wp2_with fail
   go_region_with (go_at_call 38;refine (HC.out _).mono ?_;rintro e w6 ⟨rfl,hb6⟩;first | (have hc6:w6.cell? ⟨w.heap.size,0,none⟩=some (.int .u8 (48+(r:Int))):=(hb6.cell (p:=⟨w.heap.size,0,none⟩) (by simp)).trans (World.cell?_alloc_mark w.drew #[.int .u8 (48+(r:Int))] 5 (0,0) 0)) | skip)
   all_goals
    have kx:Below w.heap.size w w6:=by
     first
      | exact (Below.refl _ _).drew.trans hb6
      | exact (((Below.refl _ w).alloc (Nat.le_refl _) _).drew).trans (hb6.mono (by simp))
    have ky:=fun o=>kx.alloc kx.size o
    have hV:=hE.out
    clear q2 q3 q4 q5 q6 hcv hcv2 hz
    go_wp2_with fail
    go_ret
    exact ⟨by rw [hV,<- bs_append];rfl,by first | exact kx | exact ky _⟩
end Go.Proofs.YticccnkanihpnaaDoor
namespace Go.Proofs.YticccnkanihpnaaDoor
set_option linter.unusedVariables false
open Go.RowKit
def ZS (xs:List (List UInt8)) (k:Nat):List UInt8:=xs.getD k []
def sv (x:List UInt8):Value:=.string (bs x)
def Ss (w:World) (B:Nat) (A:Option Addr) (xs:List (List UInt8)):Prop :=
 0 < xs.length->∃ b off,A=some ⟨b,off,none⟩∧b < B∧∀ k,k < xs.length->w.cell? ⟨b,off+k,none⟩=some (.string (bs (ZS xs k)))
theorem Ss.below {w w':World} {B:Nat} {A:Option Addr} {xs:List (List UInt8)} (h:Ss w B A xs) (hb:Below B w w'):Ss w' B A xs:=by
 intro hn
 obtain ⟨b,off,rfl,hlt,hc⟩:=h hn
 exact ⟨b,off,rfl,hlt,fun k hk=>(hb.cell (p:=⟨b,_,none⟩) hlt).trans (hc k hk)⟩
theorem Ss.more {w:World} {B B':Nat} {A:Option Addr} {xs:List (List UInt8)} (h:Ss w B A xs) (hb:B<=B'):Ss w B' A xs:=by
 intro hn
 obtain ⟨b,off,rfl,hlt,hc⟩:=h hn
 exact ⟨b,off,rfl,by omega,hc⟩
def SO (w:World) (base:Nat) (v:Value) (xs:List (List UInt8)):Prop:=w.ownsRow base 9 1 v xs.length (xs.map sv)
theorem SO.nil (w:World) (base:Nat):SO w base (.slice none 0 0) []:=⟨rfl,.inl ⟨rfl,rfl⟩⟩
theorem SO.below {w w':World} {base B:Nat} {v:Value} {xs:List (List UInt8)} (h:SO w base v xs) (hb:Below B w w') (hB:w.heap.size<=B):SO w' base v xs:=owns_below h hb hB
theorem SO.mono {w:World} {base base':Nat} {v:Value} {xs:List (List UInt8)} (h:SO w base v xs) (hB:base'<=base):SO w base' v xs:=owns_mono h hB
theorem SO.form {w:World} {base:Nat} {v:Value} {xs:List (List UInt8)} (h:SO w base v xs):∃ A c,v=.slice A xs.length c∧xs.length<=c∧c<=maxLen∧Ss w w.heap.size A xs:=by
 have hl:=owns_lt h
 rcases h.2 with ⟨rfl,h0⟩ | ⟨g,cap,cur,rfl,hg,hh,h1,h2,h3,h4⟩
 ·exact ⟨none,0,by rw [h0],by omega,by simp [maxLen],fun hp=>by omega⟩
 ·refine ⟨_,cap,rfl,h1,h2,fun hp=>⟨g,0,rfl,hl g (by simp [Value.ownBlock]),fun k hk=>?_⟩⟩
  rw [World.ownsRow.cellAt h (0+k) (by omega)]
  simp [ZS,sv,hk]
theorem SO.cells {w:World} {base g n c:Nat} {M:List (List UInt8)} (h:SO w base (.slice (some ⟨g,0,none⟩) n c) M) :
  n=M.length∧(∀ k,k < n->w.cell? ⟨g,k,none⟩=some (.string (bs (ZS M k))))∧∀ j,w.frozen? ⟨g,j,none⟩=false:=by
 have hn:n=M.length:=by
  rcases h.2 with ⟨h2,_⟩ | ⟨g',cap,cur,h2,_⟩
  ·cases h2
  ·injection h2
 subst hn
 refine ⟨rfl,fun k hk=>?_,fun j=>World.ownsRow.frozenAt h j⟩
 rw [World.ownsRow.cellAt h k (by omega)]
 simp [ZS,sv,hk]
theorem SO.alloc {w:World} {base:Nat} {v:Value} {xs:List (List UInt8)} (h:SO w base v xs) (o:Obj):SO (w.alloc o) base v xs:=World.ownsRow.alloc h o
theorem SO.drew {w:World} {base:Nat} {v:Value} {xs:List (List UInt8)} (h:SO w base v xs):SO w.drew base v xs:=h
section
variable {w:World}
end
end Go.Proofs.YticccnkanihpnaaDoor
namespace Go.Proofs.YticccnkanihpnaaDoor
set_option linter.unusedVariables false
open Go.RowKit
def ZD (L:List DV) (k:Nat):DV:=L.getD k ⟨0,0,0⟩
def flatD (L:List DV):List Value:=L.flatMap fun d=>[.int .i64 d.k,.int .i64 d.a,.int .i64 d.b]
theorem flatD_len (L:List DV):(flatD L).length=L.length * 3:=by
 induction L with
 | nil=>rfl
 | cons c L ih=>simp [flatD] at ih ⊢;omega
theorem flatD_at (L:List DV):∀ k,k < L.length->(flatD L)[k * 3]?=some (.int .i64 (ZD L k).k)∧(flatD L)[k * 3+1]?=some (.int .i64 (ZD L k).a)∧(flatD L)[k * 3+2]?=some (.int .i64 (ZD L k).b):=by
 induction L with
 | nil=>intro k hk;simp at hk
 | cons c L ih =>
  intro k hk
  cases k with
  | zero=>exact ⟨rfl,rfl,rfl⟩
  | succ k =>
   have:=ih k (by simpa using hk)
   have e1:(k+1) * 3=k * 3+1+1+1:=by omega
   have e2:(k+1) * 3+1=k * 3+1+1+1+1:=by omega
   have e3:(k+1) * 3+2=k * 3+2+1+1+1:=by omega
   rw [e2,e3,e1]
   simp only [flatD,List.flatMap_cons,List.cons_append,List.nil_append,List.getElem?_cons_succ,ZD,List.getD_cons_succ] at this ⊢
   exact this
def Ds3 (w:World) (B:Nat) (A:Option Addr) (L:List DV):Prop :=
 0 < L.length->∃ b off,A=some ⟨b,off,none⟩∧b < B∧∀ k,k < L.length->w.cell? ⟨b,off+k * 3,none⟩=some (.int .i64 (ZD L k).k)∧w.cell? ⟨b,off+k * 3+1,none⟩=some (.int .i64 (ZD L k).a)∧w.cell? ⟨b,off+k * 3+2,none⟩=some (.int .i64 (ZD L k).b)
theorem Ds3.below {w w':World} {B:Nat} {A:Option Addr} {L:List DV} (h:Ds3 w B A L) (hb:Below B w w'):Ds3 w' B A L:=by
 intro hn
 obtain ⟨b,off,rfl,hlt,hc⟩:=h hn
 exact ⟨b,off,rfl,hlt,fun k hk=>⟨(hb.cell (p:=⟨b,_,none⟩) hlt).trans (hc k hk).1,(hb.cell (p:=⟨b,_,none⟩) hlt).trans (hc k hk).2.1,(hb.cell (p:=⟨b,_,none⟩) hlt).trans (hc k hk).2.2⟩⟩
theorem Ds3.more {w:World} {B B':Nat} {A:Option Addr} {L:List DV} (h:Ds3 w B A L) (hb:B<=B'):Ds3 w B' A L:=by
 intro hn
 obtain ⟨b,off,rfl,hlt,hc⟩:=h hn
 exact ⟨b,off,rfl,by omega,hc⟩
def EO (w:World) (base:Nat) (v:Value) (L:List DV):Prop:=w.ownsRow base 24 3 v L.length (flatD L)
theorem EO.nil (w:World) (base:Nat):EO w base (.slice none 0 0) []:=⟨rfl,.inl ⟨rfl,rfl⟩⟩
theorem EO.below {w w':World} {base B:Nat} {v:Value} {xs:List DV} (h:EO w base v xs) (hb:Below B w w') (hB:w.heap.size<=B):EO w' base v xs:=owns_below h hb hB
theorem EO.mono {w:World} {base base':Nat} {v:Value} {xs:List DV} (h:EO w base v xs) (hB:base'<=base):EO w base' v xs:=owns_mono h hB
theorem EO.alloc {w:World} {base:Nat} {v:Value} {xs:List DV} (h:EO w base v xs) (o:Obj):EO (w.alloc o) base v xs:=World.ownsRow.alloc h o
theorem EO.drew {w:World} {base:Nat} {v:Value} {xs:List DV} (h:EO w base v xs):EO w.drew base v xs:=h
theorem EO.form {w:World} {base:Nat} {v:Value} {L:List DV} (h:EO w base v L):∃ A c,v=.slice A L.length c∧L.length<=c∧c<=maxLen∧Ds3 w w.heap.size A L:=by
 have hl:=owns_lt h
 rcases h.2 with ⟨rfl,h0⟩ | ⟨g,cap,cur,rfl,hg,hh,h1,h2,h3,h4⟩
 ·exact ⟨none,0,by rw [h0],by omega,by simp [maxLen],fun hp=>by omega⟩
 ·refine ⟨_,cap,rfl,h1,h2,fun hp=>⟨g,0,rfl,hl g (by simp [Value.ownBlock]),fun k hk=>?_⟩⟩
  have:=flatD_at L k hk
  refine ⟨?_,?_,?_⟩
  ·rw [Nat.zero_add,World.ownsRow.cellAt h (k * 3) (by omega)];exact this.1
  ·rw [Nat.zero_add,World.ownsRow.cellAt h (k * 3+1) (by omega)];exact this.2.1
  ·rw [Nat.zero_add,World.ownsRow.cellAt h (k * 3+2) (by omega)];exact this.2.2
section
variable {w:World}
end
end Go.Proofs.YticccnkanihpnaaDoor

import Derived.WalkKit
import Derived.Deep.QuietTactic
import Derived.BigQuiet
import Derived.WalkSpells
import Derived.Lib.Hide
import Derived.Test.YticccnkanihpnaaDoorProg
import Derived.Deep.RegionHeld3
import Derived.Deep.AppendLies
import Derived.Deep.DrawnRows
import Derived.StillTail
import Derived.Deep.Quiet
import Derived.ArgAppend
import Derived.Laws.IdiomCopy
import Derived.Lib.LaidTab
import Derived.Lib.ItoaNum
import Derived.Test.YticccnkanihpnaaDoorRows
import Derived.Stop.LaidErr
import Derived.Deep.DeepHandedRow
import Derived.Shelf.Vars
import Derived.Deep.Upon
import Derived.OwnWalk
namespace Go.Proofs.YticccnkanihpnaaDoor
set_option linter.unusedVariables false
open Go.RowKit
def X (L:List (Int×Int)) (k:Nat):Int:=(L.getD k (0,0)).1
def Y (L:List (Int×Int)) (k:Nat):Int:=(L.getD k (0,0)).2
def cok (x y:Int):Bool:=decide (0<=x∧x<=60) && decide (1<=y∧y<=9)
def prevOf (L:List (Int×Int)) (k:Nat):Int:=if k=0 then 0 else X L (k - 1)
def okAt (L:List (Int×Int)) (k:Nat):Bool:=cok (X L k) (Y L k) && decide (prevOf L k<=X L k)
def okTo (L:List (Int×Int)):Nat->Bool
 | 0=>true
 | k+1=>okTo L k && okAt L k
def cOk (L:List (Int×Int)):Bool:=decide (L.length<=8) && okTo L L.length
theorem okTo_le {L:List (Int×Int)} {n:Nat} (h:okTo L n=true):∀ k,k<=n->okTo L k=true:=by
 induction n with
 | zero=>intro k hk;obtain rfl:k=0:=by omega
         exact h
 | succ n ih =>
  intro k hk
  simp only [okTo,Bool.and_eq_true] at h
  by_cases e:k=n+1
  ·subst e;simp [okTo,h]
  ·exact ih h.1 k (by omega)
theorem okTo_no {L:List (Int×Int)} {k n:Nat} (hk:k < n) (h:okAt L k=false):okTo L n=false:=by
 cases e:okTo L n with
 | false=>rfl
 | true=>have:=okTo_le e (k+1) (by omega);simp [okTo,h] at this
def Cells (w:World) (b off:Nat) (L:List (Int×Int)):Prop :=
 ∀ k,k < L.length->w.cell? ⟨b,off+k * 2,none⟩=some (.int .i64 (X L k))∧w.cell? ⟨b,off+k * 2+1,none⟩=some (.int .i64 (Y L k))
def Cs (w:World) (B:Nat) (A:Option Addr) (L:List (Int×Int)):Prop :=
 0 < L.length->∃ b off,A=some ⟨b,off,none⟩∧b < B∧Cells w b off L
theorem Cs.below {w w':World} {B:Nat} {A:Option Addr} {L:List (Int×Int)} (h:Cs w B A L) (hb:Below B w w'):Cs w' B A L:=by
 intro hn
 obtain ⟨b,off,rfl,hlt,hc⟩:=h hn
 exact ⟨b,off,rfl,hlt,fun k hk=>⟨(hb.cell (p:=⟨b,_,none⟩) hlt).trans (hc k hk).1,(hb.cell (p:=⟨b,_,none⟩) hlt).trans (hc k hk).2⟩⟩
theorem okAt_of {L:List (Int×Int)} {k:Nat} (h1:cok (X L k) (Y L k)=true) (h2:prevOf L k<=X L k):okAt L k=true:=by simp [okAt,h1,h2]
theorem okAt_no1 {L:List (Int×Int)} {k:Nat} (h1:cok (X L k) (Y L k)=false):okAt L k=false:=by simp [okAt,h1]
theorem okAt_no2 {L:List (Int×Int)} {k:Nat} (h2:X L k < prevOf L k):okAt L k=false:=by simp [okAt];omega
theorem Cs.more {w:World} {B B':Nat} {A:Option Addr} {L:List (Int×Int)} (h:Cs w B A L) (hb:B<=B'):Cs w B' A L:=by
 intro hn
 obtain ⟨b,off,rfl,hlt,hc⟩:=h hn
 exact ⟨b,off,rfl,by omega,hc⟩
theorem Below.drewN {B:Nat} {a w:World} (h:Below B a w) (n:Nat):Below B a (w.drewN n):=⟨h.os,h.tape,h.output,h.size,h.block⟩
theorem bcell {W w1:World} (hb:Below W.heap.size W w1):(∀ b o,b < W.heap.size->w1.cell? ⟨b,o,none⟩=W.cell? ⟨b,o,none⟩)∧(∀ b o,b < W.heap.size->w1.frozen? ⟨b,o,none⟩=W.frozen? ⟨b,o,none⟩) :=
 ⟨fun b o h=>hb.cell (p:=⟨b,o,none⟩) h,fun b o h=>hb.frozen (p:=⟨b,o,none⟩) h⟩
end Go.Proofs.YticccnkanihpnaaDoor
namespace Go.Proofs.YticccnkanihpnaaDoor
set_option linter.unusedVariables false
open Go.RowKit
theorem X_take {L:List (Int×Int)} {n k:Nat} (h:k < n):X (L.take n) k=X L k:=by simp [X,h]
theorem Y_take {L:List (Int×Int)} {n k:Nat} (h:k < n):Y (L.take n) k=Y L k:=by simp [Y,h]
theorem Cs.take {w:World} {B:Nat} {A:Option Addr} {L:List (Int×Int)} (h:Cs w B A L) (n:Nat):Cs w B A (L.take n):=by
 intro hn
 simp only [List.length_take] at hn
 obtain ⟨b,off,rfl,hlt,hc⟩:=h (by omega)
 refine ⟨b,off,rfl,hlt,fun k hk=>?_⟩
 simp only [List.length_take] at hk
 rw [X_take (by omega),Y_take (by omega)]
 exact hc k (by omega)
end Go.Proofs.YticccnkanihpnaaDoor
namespace Go.Proofs.YticccnkanihpnaaDoor
set_option linter.unusedVariables false
open Go.RowKit
end Go.Proofs.YticccnkanihpnaaDoor
namespace Go.Proofs.YticccnkanihpnaaDoor
set_option linter.unusedVariables false
open Go.RowKit
end Go.Proofs.YticccnkanihpnaaDoor
namespace Go.Proofs.YticccnkanihpnaaDoor
set_option linter.unusedVariables false
open Go.RowKit
end Go.Proofs.YticccnkanihpnaaDoor
namespace Go.Proofs.YticccnkanihpnaaDoor
set_option linter.unusedVariables false
open Go.RowKit
def waitAt (L:List (Int×Int)):Nat->Int
 | 0=>0
 | k+1=>max (waitAt L k+Y L k - (X L (k+1) - X L k)) 0
def waitsTo (L:List (Int×Int)) (k:Nat):List Int:=(List.range k).map (waitAt L)
end Go.Proofs.YticccnkanihpnaaDoor
namespace Go.Proofs.YticccnkanihpnaaDoor
set_option linter.unusedVariables false
open Go.RowKit
end Go.Proofs.YticccnkanihpnaaDoor
namespace Go.Proofs.YticccnkanihpnaaDoor
set_option linter.unusedVariables false
open Go.RowKit
end Go.Proofs.YticccnkanihpnaaDoor
namespace Go.Proofs.YticccnkanihpnaaDoor
set_option linter.unusedVariables false
open Go.RowKit
def placesTo (L:List (Int×Int)) (b e:Int):Nat->List Int
 | 0=>[]
 | j+1=>if b<=X L j∧X L j<=e - 1 then placesTo L b e j++[(j:Int)] else placesTo L b e j
def places (L:List (Int×Int)) (b e:Int):List Int:=placesTo L b e L.length
section
variable {L:List (Int×Int)} {t:Nat} {B:List (Int×Int)}
end
end Go.Proofs.YticccnkanihpnaaDoor
namespace Go.Proofs.YticccnkanihpnaaDoor
set_option linter.unusedVariables false
open Go.RowKit
theorem infoI:(Tryd.prog.info? 3).map (fun i=>(i.zero,i.size,i.bytes))=some (some (.int .i64 0),1,8):=by kernel_rfl
theorem infoC:(Tryd.prog.info? 63).map (fun i=>(i.zero,i.size,i.bytes))=some (some (.agg #[.int .i64 0,.int .i64 0]),2,16):=by kernel_rfl
def Z (xs:List Int) (k:Nat):Int:=xs.getD k 0
def Is (w:World) (B:Nat) (A:Option Addr) (xs:List Int):Prop :=
 0 < xs.length->∃ b off,A=some ⟨b,off,none⟩∧b < B∧∀ k,k < xs.length->w.cell? ⟨b,off+k,none⟩=some (.int .i64 (Z xs k))
theorem Is.below {w w':World} {B:Nat} {A:Option Addr} {xs:List Int} (h:Is w B A xs) (hb:Below B w w'):Is w' B A xs:=by
 intro hn
 obtain ⟨b,off,rfl,hlt,hc⟩:=h hn
 exact ⟨b,off,rfl,hlt,fun k hk=>(hb.cell (p:=⟨b,_,none⟩) hlt).trans (hc k hk)⟩
theorem Is.more {w:World} {B B':Nat} {A:Option Addr} {xs:List Int} (h:Is w B A xs) (hb:B<=B'):Is w B' A xs:=by
 intro hn
 obtain ⟨b,off,rfl,hlt,hc⟩:=h hn
 exact ⟨b,off,rfl,by omega,hc⟩
def IO (w:World) (base:Nat) (v:Value) (xs:List Int):Prop:=w.ownsRow base 3 1 v xs.length (xs.map (Value.int .i64))
def flatC (L:List (Int×Int)):List Value:=L.flatMap fun c=>[.int .i64 c.1,.int .i64 c.2]
def CO (w:World) (base:Nat) (v:Value) (L:List (Int×Int)):Prop:=w.ownsRow base 63 2 v L.length (flatC L)
theorem flatC_at (L:List (Int×Int)):∀ k,k < L.length->(flatC L)[k * 2]?=some (.int .i64 (X L k))∧(flatC L)[k * 2+1]?=some (.int .i64 (Y L k)):=by
 induction L with
 | nil=>intro k hk;simp at hk
 | cons c L ih =>
  intro k hk
  cases k with
  | zero=>exact ⟨rfl,rfl⟩
  | succ k =>
   have:=ih k (by simpa using hk)
   have e1:(k+1) * 2=k * 2+1+1:=by omega
   simp only [flatC,List.flatMap_cons,e1,List.cons_append,List.nil_append,List.getElem?_cons_succ,X,Y,List.getD_cons_succ] at this ⊢
   exact this
theorem flatC_snoc (L:List (Int×Int)) (c:Int×Int):flatC (L++[c])=flatC L++[.int .i64 c.1,.int .i64 c.2]:=by simp [flatC]
theorem owns_base {w:World} {base:Nat} {e:TypeId} {size:Nat} {v:Value} {n:Nat} {xs:List Value} (h:w.ownsRow base e size v n xs):∀ k,v.ownBlock=some k->base<=k:=by
 intro k hk
 rcases h.2 with ⟨rfl,_⟩ | ⟨g,cap,cur,rfl,hg,_⟩
 ·simp [Value.ownBlock] at hk
 ·simp [Value.ownBlock] at hk;omega
theorem owns_lt {w:World} {base:Nat} {e:TypeId} {size:Nat} {v:Value} {n:Nat} {xs:List Value} (h:w.ownsRow base e size v n xs):∀ k,v.ownBlock=some k->k < w.heap.size:=by
 intro k hk
 rcases h.2 with ⟨rfl,_⟩ | ⟨g,cap,cur,rfl,hg,hh,_⟩
 ·simp [Value.ownBlock] at hk
 ·simp [Value.ownBlock] at hk;subst hk
  rcases Nat.lt_or_ge g w.heap.size with h | h
  ·exact h
  ·rw [Array.getElem?_eq_none h] at hh;cases hh
theorem owns_below {w w':World} {base:Nat} {e:TypeId} {size:Nat} {v:Value} {n:Nat} {xs:List Value} (h:w.ownsRow base e size v n xs) {B:Nat} (hb:Below B w w') (hB:w.heap.size<=B):w'.ownsRow base e size v n xs:=by
 refine ⟨h.1,?_⟩
 have hl:=owns_lt h
 rcases h.2 with h2 | ⟨g,cap,cur,rfl,hg,hh,r⟩
 ·exact .inl h2
 ·have:=hl g (by simp [Value.ownBlock])
  exact .inr ⟨g,cap,cur,rfl,hg,by rw [hb.block g (by omega)];exact hh,r⟩
theorem owns_mono {w:World} {base base':Nat} {e:TypeId} {size:Nat} {v:Value} {n:Nat} {xs:List Value} (h:w.ownsRow base e size v n xs) (hB:base'<=base):w.ownsRow base' e size v n xs:=by
 refine ⟨h.1,?_⟩
 rcases h.2 with h2 | ⟨g,cap,cur,rfl,hg,r⟩
 ·exact .inl h2
 ·exact .inr ⟨g,cap,cur,rfl,by omega,r⟩
theorem IO.nil (w:World) (base:Nat):IO w base (.slice none 0 0) []:=⟨rfl,.inl ⟨rfl,rfl⟩⟩
theorem CO.nil (w:World) (base:Nat):CO w base (.slice none 0 0) []:=⟨rfl,.inl ⟨rfl,rfl⟩⟩
theorem IO.empty (w:World) {base:Nat} (h:base<=w.heap.size):IO (w.alloc (.cells #[] 3)) base (.slice (some ⟨w.heap.size,0,none⟩) 0 0) [] :=
 ⟨rfl,.inr ⟨w.heap.size,0,#[],rfl,h,heap_alloc_new _ _,Nat.le_refl _,by simp [maxLen],rfl,rfl⟩⟩
theorem CO.empty (w:World) {base:Nat} (h:base<=w.heap.size):CO (w.alloc (.cells #[] 63)) base (.slice (some ⟨w.heap.size,0,none⟩) 0 0) [] :=
 ⟨rfl,.inr ⟨w.heap.size,0,#[],rfl,h,heap_alloc_new _ _,Nat.le_refl _,by simp [maxLen],rfl,rfl⟩⟩
theorem IO.below {w w':World} {base B:Nat} {v:Value} {xs:List Int} (h:IO w base v xs) (hb:Below B w w') (hB:w.heap.size<=B):IO w' base v xs:=owns_below h hb hB
theorem CO.below {w w':World} {base B:Nat} {v:Value} {xs:List (Int×Int)} (h:CO w base v xs) (hb:Below B w w') (hB:w.heap.size<=B):CO w' base v xs:=owns_below h hb hB
theorem IO.mono {w:World} {base base':Nat} {v:Value} {xs:List Int} (h:IO w base v xs) (hB:base'<=base):IO w base' v xs:=owns_mono h hB
theorem CO.mono {w:World} {base base':Nat} {v:Value} {xs:List (Int×Int)} (h:CO w base v xs) (hB:base'<=base):CO w base' v xs:=owns_mono h hB
theorem IO.form {w:World} {base:Nat} {v:Value} {xs:List Int} (h:IO w base v xs):∃ A c,v=.slice A xs.length c∧xs.length<=c∧c<=maxLen∧Is w w.heap.size A xs:=by
 have hl:=owns_lt h
 rcases h.2 with ⟨rfl,h0⟩ | ⟨g,cap,cur,rfl,hg,hh,h1,h2,h3,h4⟩
 ·exact ⟨none,0,by rw [h0],by omega,by simp [maxLen],fun hp=>by omega⟩
 ·refine ⟨_,cap,rfl,h1,h2,fun hp=>⟨g,0,rfl,hl g (by simp [Value.ownBlock]),fun k hk=>?_⟩⟩
  rw [World.ownsRow.cellAt h (0+k) (by omega)]
  simp [Z,hk]
theorem CO.form {w:World} {base:Nat} {v:Value} {L:List (Int×Int)} (h:CO w base v L):∃ A c,v=.slice A L.length c∧L.length<=c∧c<=maxLen∧Cs w w.heap.size A L:=by
 have hl:=owns_lt h
 rcases h.2 with ⟨rfl,h0⟩ | ⟨g,cap,cur,rfl,hg,hh,h1,h2,h3,h4⟩
 ·exact ⟨none,0,by rw [h0],by omega,by simp [maxLen],fun hp=>by omega⟩
 ·refine ⟨_,cap,rfl,h1,h2,fun hp=>⟨g,0,rfl,hl g (by simp [Value.ownBlock]),fun k hk=>?_⟩⟩
  have:=flatC_at L k hk
  refine ⟨?_,?_⟩
  ·rw [Nat.zero_add,World.ownsRow.cellAt h (k * 2) (by omega)];exact this.1
  ·rw [Nat.zero_add,World.ownsRow.cellAt h (k * 2+1) (by omega)];exact this.2
theorem CO.cells {w:World} {base g n c:Nat} {M:List (Int×Int)} (h:CO w base (.slice (some ⟨g,0,none⟩) n c) M) :
  n=M.length∧(∀ k,k < n->w.cell? ⟨g,k * 2,none⟩=some (.int .i64 (X M k))∧w.cell? ⟨g,k * 2+1,none⟩=some (.int .i64 (Y M k)))∧∀ j,w.frozen? ⟨g,j,none⟩=false:=by
 have hn:n=M.length:=by
  rcases h.2 with ⟨h2,_⟩ | ⟨g',cap,cur,h2,_⟩
  ·cases h2
  ·injection h2
 subst hn
 refine ⟨rfl,fun k hk=>?_,fun j=>World.ownsRow.frozenAt h j⟩
 have:=flatC_at M k hk
 exact ⟨(World.ownsRow.cellAt h (k * 2) (by omega)).trans this.1,(World.ownsRow.cellAt h (k * 2+1) (by omega)).trans this.2⟩
theorem IO.cells {w:World} {base g n c:Nat} {M:List Int} (h:IO w base (.slice (some ⟨g,0,none⟩) n c) M) :
  n=M.length∧(∀ k,k < n->w.cell? ⟨g,k,none⟩=some (.int .i64 (Z M k)))∧∀ j,w.frozen? ⟨g,j,none⟩=false:=by
 have hn:n=M.length:=by
  rcases h.2 with ⟨h2,_⟩ | ⟨g',cap,cur,h2,_⟩
  ·cases h2
  ·injection h2
 subst hn
 refine ⟨rfl,fun k hk=>?_,fun j=>World.ownsRow.frozenAt h j⟩
 rw [World.ownsRow.cellAt h k (by omega)]
 simp [Z,hk]
theorem IO.alloc {w:World} {base:Nat} {v:Value} {xs:List Int} (h:IO w base v xs) (o:Obj):IO (w.alloc o) base v xs:=World.ownsRow.alloc h o
theorem IO.drew {w:World} {base:Nat} {v:Value} {xs:List Int} (h:IO w base v xs):IO w.drew base v xs:=h
theorem CO.alloc {w:World} {base:Nat} {v:Value} {xs:List (Int×Int)} (h:CO w base v xs) (o:Obj):CO (w.alloc o) base v xs:=World.ownsRow.alloc h o
theorem CO.drew {w:World} {base:Nat} {v:Value} {xs:List (Int×Int)} (h:CO w base v xs):CO w.drew base v xs:=h
section
variable {w:World}
theorem app_I {ops:Array Oper} {rest:List Oper} {o:Oper} {a:Act} {Q:Exit->Act->World->Prop} (hgd:o.guard=none) (s x:Operand)
  (ho:o.op=.call { callee:=.builtin .append,args:=#[s,x],argTypes:=#[57,57] })
  (base:Nat) (v:Value) (xs:List Int) (y:Int) (B:Nat) (hs:a.eval s=v) (hown:IO w base v xs) (hx:a.eval x=.slice (some ⟨B,0,none⟩) 1 1)
  (hB:w.heap[B]?=some (.cells #[.int .i64 y] 3 (0,0))) (hlen:xs.length<=1000000000000) (hbase:base<=w.heap.size)
  (h:∀ g cap w',IO w' base (.slice (some ⟨g,0,none⟩) (xs.length+1) cap) (xs++[y])->w.grownBy w' v.ownBlock->Below base w w'->wpList Tryd.prog ops Q rest (a.put o.dst (.slice (some ⟨g,0,none⟩) (xs.length+1) cap)) w') :
  wpList Tryd.prog ops Q (o::rest) a w:=by
 obtain ⟨i0,hi,hz0,hz1,hz2⟩:=info_parts infoI
 refine wpList_append_lies w hgd s x _ ho base 3 i0 _ 1 8 Tryd.underlying57 hi hz0 hz1 hz2 rfl (by decide) v xs.length _ hs hown
  ⟨B,0,none⟩ 1 1 [.int .i64 y] hx rfl (World.news_of_block (cs:=#[.int .i64 y]) hB) (by simp [Value.oneCell']) (by decide) (by simp only [maxLen];omega) (by omega) hbase _ rfl ?_
 intro g cap w' h1 h2 _ _
 exact h g cap w' (by simpa [IO] using h1) h2 ((Below.refl _ _).grown h2 hbase (owns_base hown))
theorem app_C {ops:Array Oper} {rest:List Oper} {o:Oper} {a:Act} {Q:Exit->Act->World->Prop} (hgd:o.guard=none) (s x:Operand)
  (ho:o.op=.call { callee:=.builtin .append,args:=#[s,x],argTypes:=#[51,51] })
  (base:Nat) (v:Value) (L:List (Int×Int)) (p q:Int) (B:Nat) (hs:a.eval s=v) (hown:CO w base v L) (hx:a.eval x=.slice (some ⟨B,0,none⟩) 1 1)
  (hB:w.heap[B]?=some (.cells #[.int .i64 p,.int .i64 q] 63 (0,0))) (hlen:L.length<=1000000000000) (hbase:base<=w.heap.size)
  (h:∀ g cap w',CO w' base (.slice (some ⟨g,0,none⟩) (L.length+1) cap) (L++[(p,q)])->w.grownBy w' v.ownBlock->Below base w w'->wpList Tryd.prog ops Q rest (a.put o.dst (.slice (some ⟨g,0,none⟩) (L.length+1) cap)) w') :
  wpList Tryd.prog ops Q (o::rest) a w:=by
 obtain ⟨i0,hi,hz0,hz1,hz2⟩:=info_parts infoC
 refine wpList_append_lies w hgd s x _ ho base 63 i0 _ 2 16 Tryd.underlying51 hi hz0 hz1 hz2 rfl (by decide) v L.length _ hs hown
  ⟨B,0,none⟩ 1 1 [.int .i64 p,.int .i64 q] hx rfl (World.news_of_block (cs:=#[.int .i64 p,.int .i64 q]) hB) (by simp [Value.oneCell']) (by decide) (by simp only [maxLen];omega) (by omega) hbase _ rfl ?_
 intro g cap w' h1 h2 _ _
 exact h g cap w' (by simpa [CO,flatC_snoc] using h1) h2 ((Below.refl _ _).grown h2 hbase (owns_base hown))
end
end Go.Proofs.YticccnkanihpnaaDoor
namespace Go.Proofs.YticccnkanihpnaaDoor
set_option linter.unusedVariables false
open Go.RowKit
structure WB (B:Nat) (w:World) where
 val:World
 below:Below B w val
instance (B:Nat) (w:World):Nonempty (WB B w):=⟨⟨w,Below.refl _ _⟩⟩
theorem wp_region_wb {P:Program} {id:Nat} {Q:Exit->Act->World->Prop} {a:Act} {w:World} {l:List Oper} (B:Nat) (hm:P.follows .mixedOrders=true) (hB:Region.lexB .any l.toArray=true)
  (h:wpQuiet P l.toArray (fun w'=>∃ s:WB B w,w'=s.val) (fun a'=>∀ w',(∃ s:WB B w,w'=s.val)->Q .normal a' w') l a):(Code.region id l.toArray true).wp P Q a w :=
 wp_region_quiet (C:=fun w'=>∃ s:WB B w,w'=s.val) hm hB ⟨⟨w.drew,(Below.refl _ _).drew⟩,rfl⟩ (by simpa using h)
theorem Calls.inB {P:Program} {f:FuncId} {args:Array Value} {B:Nat} {w:World} {s:WB B w} {v:Value} (hB:B<=w.heap.size)
  (h:Calls P f args s.val fun e w'=>e=.returned v∧Below s.val.heap.size s.val w'):Calls P f args s.val fun e w''=>e=.returned v∧∃ s':WB B w,w''=s'.val :=
 h.mono fun _ w' ⟨he,hb⟩=>⟨he,⟨w',s.below.trans (hb.mono (Nat.le_trans hB s.below.size))⟩,rfl⟩
theorem WB.cell {B:Nat} {w:World} {b o:Nat} {v:Value} (hb:b < B) (h:w.cell? ⟨b,o,none⟩=some v):∀ s:WB B w,s.val.cell? ⟨b,o,none⟩=some v :=
 fun s=>(s.below.cell (p:=⟨b,o,none⟩) hb).trans h
end Go.Proofs.YticccnkanihpnaaDoor
namespace Go.Proofs.YticccnkanihpnaaDoor
set_option linter.unusedVariables false
open Go.RowKit
def HeadQ (P:Program) (md:Region.Mode) (ops:Array Oper) (C:World->Prop) (n:Nat) (L:Array Bool->Act->Prop):Nat->Array Bool->Act->Prop
 | 0,listed,a=>L listed a
 | f+1,listed,a=>Region.ready md ops listed≠[]∧∀ i ∈ Region.ready md ops listed,i < n∧qOp P ops C i (HeadQ P md ops C n L f (listed.setIfInBounds i true)) a
section
variable {P:Program} {ops:Array Oper} {md:Region.Mode} {C:World->Prop} {n g:Nat} {L:Array Bool->Act->Prop}
theorem HeadQ.any {Q:Exit->Act->World->Prop} (hL:∀ listed a w,C w->L listed a->wpAny P md ops Q g listed a w) :
  ∀ (f:Nat) (listed:Array Bool) (a:Act) (w:World),C w->HeadQ P md ops C n L f listed a->wpAny P md ops Q (f+g) listed a w:=by
 intro f
 induction f with
 | zero=>intro listed a w hw h;rw [Nat.zero_add];exact hL _ _ _ hw h
 | succ f ih =>
  intro listed a w hw h
  have e:f+1+g=(f+g)+1:=by omega
  rw [e]
  exact ⟨fun h0=>absurd h0 h.1,fun i hi=>wpOp_of_qOp hw (fun a' w' hw' h'=>ih _ a' w' hw' h') (h.2 i hi).2⟩
end
theorem IO.grownR {w w':World} {base:Nat} {row:Option Nat} {v:Value} {L:List Int} (h:IO w base v L) (hg:w.grownBy w' row) (hr:∀ r,row=some r->r < base):IO w' base v L:=by
 refine ⟨h.1,?_⟩
 have hl:=owns_lt h
 rcases h.2 with h2 | ⟨g,cap,cur,rfl,hgb,hh,rest⟩
 ·exact .inl h2
 ·have:=hl g (by simp [Value.ownBlock])
  exact .inr ⟨g,cap,cur,rfl,hgb,by rw [hg.block g (by omega) (fun e=>by have:=hr _ e.symm;omega)];exact hh,rest⟩
theorem CO.grownR {w w':World} {base:Nat} {row:Option Nat} {v:Value} {L:List (Int×Int)} (h:CO w base v L) (hg:w.grownBy w' row) (hr:∀ r,row=some r->r < base):CO w' base v L:=by
 refine ⟨h.1,?_⟩
 have hl:=owns_lt h
 rcases h.2 with h2 | ⟨g,cap,cur,rfl,hgb,hh,rest⟩
 ·exact .inl h2
 ·have:=hl g (by simp [Value.ownBlock])
  exact .inr ⟨g,cap,cur,rfl,hgb,by rw [hg.block g (by omega) (fun e=>by have:=hr _ e.symm;omega)];exact hh,rest⟩
theorem IO.grownR' {w w':World} {base:Nat} {row:Option Nat} {v:Value} {L:List Int} (h:IO w base v L) (hg:w.grownBy w' row) (hr:∀ r,v.ownBlock=some r->row≠some r):IO w' base v L:=by
 refine ⟨h.1,?_⟩
 have hl:=owns_lt h
 rcases h.2 with h2 | ⟨g,cap,cur,rfl,hgb,hh,rest⟩
 ·exact .inl h2
 ·have:=hl g (by simp [Value.ownBlock])
  exact .inr ⟨g,cap,cur,rfl,hgb,by rw [hg.block g (by omega) (fun e=>hr g (by simp [Value.ownBlock]) (by rw [<- e]))];exact hh,rest⟩
def Sep (lo hi:Nat) (v:Value):Prop:=∀ r,v.ownBlock=some r->r=lo∨hi<=r
def Mid (lo hi:Nat) (w1 w:World):Prop:=∀ b,lo < b->b < hi->w.heap[b]?=w1.heap[b]?
theorem Mid.refl (lo hi:Nat) (w:World):Mid lo hi w w:=fun _ _ _=>rfl
theorem Mid.below {lo hi B:Nat} {w1 w w':World} (h:Mid lo hi w1 w) (hb:Below B w w') (hB:hi<=B):Mid lo hi w1 w':=fun b h1 h2=>(hb.block b (by omega)).trans (h b h1 h2)
theorem Mid.grown {lo hi:Nat} {w1 w w':World} {v:Value} (h:Mid lo hi w1 w) (hs:Sep lo hi v) (hg:w.grownBy w' v.ownBlock) (hB:hi<=w.heap.size):Mid lo hi w1 w':=fun b h1 h2 =>
 (hg.block b (by omega) (fun e=>by have:=hs b e.symm;omega)).trans (h b h1 h2)
theorem Mid.cell {lo hi:Nat} {w1 w:World} (h:Mid lo hi w1 w) {b o:Nat} (h1:lo < b) (h2:b < hi):w.cell? ⟨b,o,none⟩=w1.cell? ⟨b,o,none⟩:=World.cell?_of_block (h b h1 h2)
theorem Sep.nil (lo hi n c:Nat):Sep lo hi (.slice none n c):=fun r e=>by simp [Value.ownBlock] at e
section
variable {w:World}
end
end Go.Proofs.YticccnkanihpnaaDoor
namespace Go.Proofs.YticccnkanihpnaaDoor
set_option linter.unusedVariables false
open Go.RowKit
section
variable {w:World}
end
end Go.Proofs.YticccnkanihpnaaDoor
namespace Go.Proofs.YticccnkanihpnaaDoor
set_option linter.unusedVariables false
open Go.RowKit
structure IOO (w:World) (base:Nat) (v:Value) (xss:List (List Int)) (vs:List Value):Prop where
 row:w.ownsRow base 57 1 v xss.length vs
 inner:∀ k,k < xss.length->IO w base (vs.getD k undef) (xss.getD k [])
 apart:∀ k,k < xss.length->∀ r,(vs.getD k undef).ownBlock=some r->v.ownBlock≠some r
 diff:∀ i j,i < xss.length->j < xss.length->i≠j->∀ r,(vs.getD i undef).ownBlock=some r->(vs.getD j undef).ownBlock≠some r
theorem IOO.len {w:World} {base:Nat} {v:Value} {xss:List (List Int)} {vs:List Value} (h:IOO w base v xss vs):vs.length=xss.length:=by
 have:=h.row.1
 omega
theorem IOO.nil (w:World) (base:Nat):IOO w base (.slice none 0 0) [] []:=⟨⟨rfl,.inl ⟨rfl,rfl⟩⟩,fun k h=>by simp at h,fun k h=>by simp at h,fun i j h=>by simp at h⟩
theorem IOO.empty (w:World) {base:Nat} (h:base<=w.heap.size):IOO (w.alloc (.cells #[] 57)) base (.slice (some ⟨w.heap.size,0,none⟩) 0 0) [] [] :=
 ⟨⟨rfl,.inr ⟨w.heap.size,0,#[],rfl,h,heap_alloc_new _ _,Nat.le_refl _,by simp [maxLen],rfl,rfl⟩⟩,fun k h=>by simp at h,fun k h=>by simp at h,fun i j h=>by simp at h⟩
theorem IOO.below {w w':World} {base B:Nat} {v:Value} {xss:List (List Int)} {vs:List Value} (h:IOO w base v xss vs) (hb:Below B w w') (hB:w.heap.size<=B):IOO w' base v xss vs :=
 ⟨owns_below h.row hb hB,fun k hk=>(h.inner k hk).below hb hB,h.apart,h.diff⟩
theorem IOO.mono {w:World} {base base':Nat} {v:Value} {xss:List (List Int)} {vs:List Value} (h:IOO w base v xss vs) (hB:base'<=base):IOO w base' v xss vs :=
 ⟨owns_mono h.row hB,fun k hk=>(h.inner k hk).mono hB,h.apart,h.diff⟩
theorem IOO.form {w:World} {base:Nat} {v:Value} {xss:List (List Int)} {vs:List Value} (h:IOO w base v xss vs) :
  ∃ A c,v=.slice A xss.length c∧xss.length<=c∧c<=maxLen∧(0 < xss.length->∃ g,A=some ⟨g,0,none⟩∧base<=g∧g < w.heap.size∧(∀ k,k < xss.length->w.cell? ⟨g,k,none⟩=some (vs.getD k undef))∧∀ j,w.frozen? ⟨g,j,none⟩=false):=by
 have hl:=owns_lt h.row
 have hn:=h.len
 rcases h.row.2 with ⟨rfl,h0⟩ | ⟨g,cap,cur,rfl,hg,hh,h1,h2,h3,h4⟩
 ·exact ⟨none,0,by rw [h0],by omega,by simp [maxLen],fun hp=>by omega⟩
 ·refine ⟨_,cap,rfl,h1,h2,fun _=>⟨g,rfl,hg,hl g (by simp [Value.ownBlock]),fun k hk=>?_,fun j=>World.ownsRow.frozenAt h.row j⟩⟩
  rw [World.ownsRow.cellAt h.row k (by omega)]
  simp [List.getD,List.getElem?_eq_getElem (show k < vs.length by omega)]
theorem IOO.cells {w:World} {base g n c:Nat} {xss:List (List Int)} {vs:List Value} (h:IOO w base (.slice (some ⟨g,0,none⟩) n c) xss vs) :
  n=xss.length∧(∀ k,k < n->w.cell? ⟨g,k,none⟩=some (vs.getD k undef))∧∀ j,w.frozen? ⟨g,j,none⟩=false:=by
 have hn:n=xss.length:=by
  rcases h.row.2 with ⟨h2,_⟩ | ⟨g',cap,cur,h2,_⟩
  ·cases h2
  ·injection h2
 subst hn
 refine ⟨rfl,fun k hk=>?_,fun j=>World.ownsRow.frozenAt h.row j⟩
 have:=h.len
 rw [World.ownsRow.cellAt h.row k (by omega)]
 simp [List.getD,List.getElem?_eq_getElem (show k < vs.length by omega)]
end Go.Proofs.YticccnkanihpnaaDoor
namespace Go.Proofs.YticccnkanihpnaaDoor
set_option linter.unusedVariables false
open Go.RowKit
def Bs (w:World) (B:Nat) (A:Option Addr) (n:Nat):Prop :=
 0 < n->∃ b off,A=some ⟨b,off,none⟩∧b < B∧∀ k,k < n->∃ y:Int,w.cell? ⟨b,off+k,none⟩=some (.int .u8 y)∧0<=y∧y<=255
theorem Bs.keep {w w':World} {B:Nat} {A:Option Addr} {n:Nat} (h:Bs w B A n) (hb:∀ k,k < B->w'.heap[k]?=w.heap[k]?):Bs w' B A n:=by
 intro hn
 obtain ⟨b,off,rfl,hlt,hc⟩:=h hn
 refine ⟨b,off,rfl,hlt,fun k hk=>?_⟩
 obtain ⟨y,h1,h2⟩:=hc k hk
 exact ⟨y,(World.cell?_of_block (w:=w) (hb b hlt)).trans h1,h2⟩
def Rd (w:World) (base r p:Nat):Prop :=
 base<=r∧r < w.heap.size∧∃ A n c,n<=2000∧w.heap[r]?=some (.cells #[.slice A n c,.int .i64 p] 89 (0,0))∧Bs w base A n
theorem grown_set (w:World) (r o:Nat) (u:Value):w.grownBy (w.setCell ⟨r,o,none⟩ u) (some r) :=
 ⟨rfl,rfl,rfl,by simp [World.setCell],fun k _ hne=>Below.heap_setCell _ _ _ _ (fun e=>hne (by rw [e]))⟩
theorem grown_drewN {w w':World} {row:Option Nat} (h:w.grownBy w' row) (n:Nat):w.grownBy (w'.drewN n) row:=⟨h.os,h.tape,h.output,h.size,h.block⟩
theorem below_grown {w w':World} {base r:Nat} (h:w.grownBy w' (some r)) (hr:base<=r) (hw:base<=w.heap.size):Below base w w' :=
 (Below.refl _ _).grown h hw (fun k e=>by cases e;exact hr)
theorem Rd.grown {w w':World} {base r p:Nat} (h:Rd w base r p) (hg:Below w.heap.size w w'):Rd w' base r p:=by
 obtain ⟨h1,h2,A,n,c,hn,hh,hb⟩:=h
 exact ⟨h1,Nat.lt_of_lt_of_le h2 hg.size,A,n,c,hn,(hg.block r h2).trans hh,hb.keep fun k hk=>hg.block k (by omega)⟩
theorem xor_i64 (a b:Nat) (ha:a < 4611686018427387904) (hb:b < 4611686018427387904):bits .xor .i64 (a:Int) (b:Int)=((a ^^^ b:Nat):Int):=by
 have hx:a ^^^ b < 2 ^ 62:=Nat.xor_lt_two_pow (by omega) (by omega)
 show IntKind.i64.wrap ((BitVec.ofInt 64 (a:Int) ^^^ BitVec.ofInt 64 (b:Int)).toNat:Int)=_
 have e1:(BitVec.ofInt 64 (a:Int)).toNat=a:=by simp;omega
 have e2:(BitVec.ofInt 64 (b:Int)).toNat=b:=by simp;omega
 rw [BitVec.toNat_xor,e1,e2]
 exact IntWalk.i64_in _ (by omega)
theorem xor_nn (x y:Int) (h0:0<=x) (h1:x<=1000000000000) (h2:0<=y) (h3:y<=1000000000000):∃ a:Nat,bits .xor .i64 x y=a∧a < 4611686018427387904:=by
 obtain ⟨a,rfl⟩:=Int.eq_ofNat_of_zero_le h0
 obtain ⟨b,rfl⟩:=Int.eq_ofNat_of_zero_le h2
 have hx:a ^^^ b < 2 ^ 62:=Nat.xor_lt_two_pow (by omega) (by omega)
 exact ⟨a ^^^ b,xor_i64 a b (by omega) (by omega),by omega⟩
theorem Rd.set {w:World} {base r p:Nat} {A:Option Addr} {n c:Nat} (h1:base<=r) (h2:r < w.heap.size) (hn:n<=2000) (hh:w.heap[r]?=some (.cells #[.slice A n c,.int .i64 p] 89 (0,0)))
  (hb:Bs w base A n) (nq:Nat):w.grownBy ((w.setCell ⟨r,1,none⟩ (.int .i64 (p+1))).drewN nq) (some r)∧Rd ((w.setCell ⟨r,1,none⟩ (.int .i64 (p+1))).drewN nq) base r (p+1):=by
 refine ⟨grown_drewN (grown_set _ _ _ _) nq,h1,?_,A,n,c,hn,?_,hb.keep fun k hk=>Below.heap_setCell _ _ _ _ (by simp;omega)⟩
 ·show r < (w.setCell _ _).heap.size
  simp [World.setCell];exact h2
 ·show (w.setCell _ _).heap[r]?=_
  simp [World.setCell,Array.getElem?_modify,hh]
set_option maxHeartbeats 4000000 in
theorem c_pick (base r p n:Nat) (w:World) (h:Rd w base r p) (hp:p<=1000000000) (hn1:1<=n) (hn2:n<=1000) :
  Calls Tryd.prog 44 #[.pointer (some ⟨r,0,none⟩),.int .i64 n] w fun e w'=>∃ x:Nat,x < n∧e=.returned (.int .i64 x)∧w.grownBy w' (some r)∧Rd w' base r (p+1):=by
 obtain ⟨h1,h2,A,m,c,hm,hh,hb⟩:=h
 have c0:w.cell? ⟨r,0,none⟩=some (.slice A m c):=by simp [cell_of_row w r 0 _ _ _ hh]
 have c1:w.cell? ⟨r,1,none⟩=some (.int .i64 p):=by simp [cell_of_row w r 1 _ _ _ hh]
 have f1:w.frozen? ⟨r,1,none⟩=false:=by simp [World.frozen?,hh]
 have HS:=Lib.hid (fun nq=>Rd.set h1 h2 hm hh hb nq)
 clear hh
 have hnn:decide ((n:Int) < 1)=false:=by simp;omega
 have hnb:decide (n < 1)=false:=by simp;omega
 by_cases hm0:m=0
 ·subst hm0
  have hmb:((0:Int) == 0)=true:=rfl
  go_enter Tryd.func44,Tryd.ntmps44
  go_wp2
  go_ret
  exact ⟨0,by omega,rfl,HS.out 0⟩
 ·obtain ⟨b,off,rfl,hlt,hc⟩:=hb (by omega)
  have hmb:((m:Int) == 0)=false:=by simp;omega
  have hbr:b≠r:=by omega
  by_cases hk:p < m
  ·obtain ⟨y,hy,hy1,hy2⟩:=hc p hk
   have hr1:0<=y % (n:Int):=Int.emod_nonneg _ (by omega)
   have hr2:y % (n:Int) < n:=Int.emod_lt_of_pos _ (by omega)
   clear hc
   go_enter Tryd.func44,Tryd.ntmps44
   go_wp2
   go_ret
   refine ⟨(y % (n:Int)).toNat,by omega,?_,HS.out 0⟩
   rw [Int.toNat_of_nonneg hr1];rfl
  ·obtain ⟨q1,hq1⟩:∃ q,q=p % m:=⟨_,rfl⟩
   obtain ⟨q2,hq2⟩:∃ q,q=(p * 7+3) % m:=⟨_,rfl⟩
   obtain ⟨d,hd⟩:∃ d,d=p / m:=⟨_,rfl⟩
   have hq1m:q1 < m:=by rw [hq1];exact Nat.mod_lt _ (by omega)
   have hq2m:q2 < m:=by rw [hq2];exact Nat.mod_lt _ (by omega)
   have hdp:d<=p:=by rw [hd];exact Nat.div_le_self _ _
   obtain ⟨y,hy,hy1,hy2⟩:=hc q1 hq1m
   obtain ⟨z,hz,hz1,hz2⟩:=hc q2 hq2m
   have t1:Int.tmod (p:Int) (m:Int)=(q1:Int):=by rw [hq1];rfl
   have t2:Int.tmod ((p:Int) * 7+3) (m:Int)=(q2:Int):=by rw [hq2];rfl
   have t3:Int.tdiv (p:Int) (m:Int)=(d:Int):=by rw [hd];rfl
   clear hq1 hq2 hd
   obtain ⟨a,ha,ha2⟩:=xor_nn (y * 131+z * 1117+(p:Int) * 29+(d:Int) * 53) ((y * 131+z * 1117+(p:Int) * 29+(d:Int) * 53) / 64) (by omega) (by omega) (by omega) (by omega)
   have T1:=Lib.hid t1;have T2:=Lib.hid t2;have T3:=Lib.hid t3;have HA:=Lib.hid ha
   clear hc t1 t2 t3 ha
   go_enter Tryd.func44,Tryd.ntmps44
   go_wp2_with fail
   have hs0:0<=y * 131+z * 1117+(p:Int) * 29+(d:Int) * 53:=by omega
   have hs1:y * 131+z * 1117+(p:Int) * 29+(d:Int) * 53<=1000000000000:=by omega
   have e1:IntKind.i64.wrap ((p:Int) * 7)=(p:Int) * 7:=IntWalk.i64_in _ (by omega)
   have e2:IntKind.i64.wrap ((p:Int) * 7+3)=(p:Int) * 7+3:=IntWalk.i64_in _ (by omega)
   have e3:IntKind.i64.wrap (y * 131)=y * 131:=IntWalk.i64_in _ (by omega)
   have e4:IntKind.i64.wrap (z * 1117)=z * 1117:=IntWalk.i64_in _ (by omega)
   have e5:IntKind.i64.wrap (y * 131+z * 1117)=y * 131+z * 1117:=IntWalk.i64_in _ (by omega)
   have e6:IntKind.i64.wrap ((p:Int) * 29)=(p:Int) * 29:=IntWalk.i64_in _ (by omega)
   have e7:IntKind.i64.wrap (y * 131+z * 1117+(p:Int) * 29)=y * 131+z * 1117+(p:Int) * 29:=IntWalk.i64_in _ (by omega)
   have e8:IntKind.i64.wrap ((d:Int) * 53)=(d:Int) * 53:=IntWalk.i64_in _ (by omega)
   have e9:IntKind.i64.wrap (y * 131+z * 1117+(p:Int) * 29+(d:Int) * 53)=y * 131+z * 1117+(p:Int) * 29+(d:Int) * 53:=IntWalk.i64_in _ (by omega)
   have t1:=T1.out;have t2:=T2.out;have t3:=T3.out
   go_quiet (fail)
   clear e1 e2 e3 e4 e5 e6 e7 e8 e9 t1 t2 t3
   have ha:=HA.out
   go_wp2
   go_ret
   have hr1:0<=(a:Int) % (n:Int):=Int.emod_nonneg _ (by omega)
   have hr2:(a:Int) % (n:Int) < n:=Int.emod_lt_of_pos _ (by omega)
   refine ⟨((a:Int) % (n:Int)).toNat,by omega,?_,HS.out _⟩
   rw [Int.toNat_of_nonneg hr1];rfl
end Go.Proofs.YticccnkanihpnaaDoor
namespace Go.Proofs.YticccnkanihpnaaDoor
set_option linter.unusedVariables false
open Go.RowKit
theorem var_same {P:Program} {w w':World} {name:String} {g:Nat} (hg:P.globalNamed name=some g) (h:w'.heap[g]?=w.heap[g]?):w'.var? P name=w.var? P name:=by
 simp only [World.var?,hg,Option.bind_some,h]
def LV1 (w : World) (B : Nat) : Prop := 1 < B ∧ Lib.TabIs Tryd.prog w "internal/strconv.uint64pow10" .u64 Lib.pow10Tab
theorem LV1.below {w w':World} {B:Nat} (h:LV1 w B) (hb:Below B w w'):LV1 w' B:=⟨h.1,by have:=h.2;unfold Lib.TabIs at this ⊢;rw [var_same (by kernel_rfl) (hb.block _ h.1)];exact this⟩
theorem LV1.more {w:World} {B B':Nat} (h:LV1 w B) (hB:B<=B'):LV1 w B':=⟨Nat.lt_of_lt_of_le h.1 hB,h.2⟩
def LV2 (w : World) (B : Nat) : Prop := (4 < B ∧ ∃ tp p, w.var? Tryd.prog "strconv.ErrSyntax" = some #[.iface tp p]) ∧ 5 < B ∧ ∃ tp p, w.var? Tryd.prog "strconv.ErrRange" = some #[.iface tp p]
theorem LV2.below {w w':World} {B:Nat} (h:LV2 w B) (hb:Below B w w'):LV2 w' B :=
 ⟨⟨h.1.1,by rw [var_same (by kernel_rfl) (hb.block _ h.1.1)];exact h.1.2⟩,h.2.1,by rw [var_same (by kernel_rfl) (hb.block _ h.2.1)];exact h.2.2⟩
theorem LV2.more {w:World} {B B':Nat} (h:LV2 w B) (hB:B<=B'):LV2 w B':=⟨⟨Nat.lt_of_lt_of_le h.1.1 hB,h.1.2⟩,Nat.lt_of_lt_of_le h.2.1 hB,h.2.2⟩
def LV3 (w:World) (B:Nat):Prop:=0 < B∧∃ m,w.cell? ⟨0,0,none⟩=some (.int .i64 m)
theorem LV3.below {w w':World} {B:Nat} (h:LV3 w B) (hb:Below B w w'):LV3 w' B:=⟨h.1,by rw [hb.cell (p:=⟨0,0,none⟩) h.1];exact h.2⟩
theorem LV3.more {w:World} {B B':Nat} (h:LV3 w B) (hB:B<=B'):LV3 w B':=⟨Nat.lt_of_lt_of_le h.1 hB,h.2⟩
def LV (w:World) (B:Nat):Prop:=LV1 w B∧LV2 w B∧LV3 w B
theorem LV.below {w w':World} {B:Nat} (h:LV w B) (hb:Below B w w'):LV w' B:=⟨h.1.below hb,h.2.1.below hb,h.2.2.below hb⟩
theorem LV.more {w:World} {B B':Nat} (h:LV w B) (hB:B<=B'):LV w B':=⟨h.1.more hB,h.2.1.more hB,h.2.2.more hB⟩
theorem LV.at {w w':World} (h:LV w w.heap.size) (hb:Below w.heap.size w w'):LV w' w'.heap.size:=(h.below hb).more hb.size
end Go.Proofs.YticccnkanihpnaaDoor
namespace Go.Proofs.YticccnkanihpnaaDoor
set_option linter.unusedVariables false
open Go.RowKit
theorem var_lt {P:Program} {w:World} {name:String} {g:Nat} {cs:Array Value} (hg:P.globalNamed name=some g) (h:w.var? P name=some cs):g < w.heap.size:=by
 simp only [World.var?,hg,Option.bind_some] at h
 cases hh:w.heap[g]? with
 | none=>rw [hh] at h;cases h
 | some o=>exact (Array.getElem?_eq_some_iff.1 hh).1
theorem lv1_of {rest : List (String × DataW Unit)} {W : World} (h : laidMet Tryd.prog (("internal/strconv.uint64pow10", Rows.laid_internal_strconv_uint64pow10) :: rest) W) : LV1 W W.heap.size := by
 have e:(Rows.laid_internal_strconv_uint64pow10:DataW Unit)=Lib.tabData .u64 Lib.pow10Tab:=by kernel_rfl
 rw [e] at h
 have hg : Tryd.prog.globalNamed "internal/strconv.uint64pow10" = some 1 := by kernel_rfl
 have hT : Lib.TabIs Tryd.prog W "internal/strconv.uint64pow10" .u64 Lib.pow10Tab :=
  Lib.tabIs_of_head (t:=115) (e:=104) (n:=20) hg (by kernel_rfl) (by kernel_rfl) (by kernel_rfl) (by kernel_rfl) (by kernel_rfl) h
 exact ⟨var_lt hg hT,hT⟩
theorem rowErr (u : TypeId) (h : Tryd.prog.typeName? 3 u = some "*errors.errorString") : u = 141 := by
 have star : "*" ++ "errors.errorString" = "*errors.errorString" := by decide
 exact typeName_ptr_named (nm := "errors.errorString") (by rw [star]; kernel_rfl) (by kernel_rfl) (by decide) u (by rw [star]; exact h)
theorem lv2_of {r1 r2 : List (String × DataW Unit)} {W : World} (h1 : laidMet Tryd.prog (("strconv.ErrSyntax", Rows.laid_strconv_ErrSyntax) :: r1) W) (h2 : laidMet Tryd.prog (("strconv.ErrRange", Rows.laid_strconv_ErrRange) :: r2) W) : LV2 W W.heap.size := by
 have g1 : Tryd.prog.globalNamed "strconv.ErrSyntax" = some 4 := by kernel_rfl
 have g2 : Tryd.prog.globalNamed "strconv.ErrRange" = some 5 := by kernel_rfl
 obtain ⟨a1,s1,v1,-,-,-⟩:=laid_sentinel (ti:=81) (te:=143) (ts:=9) h1 g1 (by kernel_rfl) Tryd.underlying81 rowErr Tryd.underlying141 Tryd.underlying143 rfl rfl Tryd.underlying9 (by kernel_rfl) (by kernel_rfl)
 obtain ⟨a2,s2,v2,-,-,-⟩:=laid_sentinel (ti:=81) (te:=143) (ts:=9) h2 g2 (by kernel_rfl) Tryd.underlying81 rowErr Tryd.underlying141 Tryd.underlying143 rfl rfl Tryd.underlying9 (by kernel_rfl) (by kernel_rfl)
 exact ⟨⟨var_lt g1 v1,_,_,v1⟩,var_lt g2 v2,_,_,v2⟩
theorem lv3_of {W:World} (h:W.ShapedOpen Tryd.prog):LV3 W W.heap.size:=by
 obtain ⟨m,hm⟩:=cell_of_shapedOpen_int (g:=0) (zero:=#[.int .i64 0]) (t:=3) h (of_decide_eq_true (by kernel_rfl)) (by kernel_rfl) rfl (by kernel_rfl) (by kernel_rfl) Tryd.underlying3
 exact ⟨World.block_lt_of_cell? W ⟨_,0,none⟩ hm,m,hm⟩
end Go.Proofs.YticccnkanihpnaaDoor
namespace Go.Proofs.YticccnkanihpnaaDoor
set_option linter.unusedVariables false
open Go.RowKit
set_option maxHeartbeats 400000 in
theorem c_within (a b c:Int) (w:World) :
  Calls Tryd.prog 35 #[.int .i64 a,.int .i64 b,.int .i64 c] w fun e w'=>e=.returned (.bool (decide (b<=a∧a<=c)))∧w=w':=by
 by_cases h1:b<=a
 ·by_cases h2:a<=c
  all_goals
   go_enter Tryd.func35,Tryd.ntmps35
   go_wp2
   go_ret
   exact ⟨by simp [h1,h2],rfl⟩
 ·go_enter Tryd.func35,Tryd.ntmps35
  go_wp2
  go_ret
  exact ⟨by simp;omega,rfl⟩
set_option maxHeartbeats 400000 in
theorem c_ok (x y:Int) (w:World) :
  Calls Tryd.prog 57 #[.agg #[.int .i64 x,.int .i64 y]] w fun e w'=>e=.returned (.bool (cok x y))∧Below w.heap.size w w':=by
 by_cases h1:0<=x∧x<=60
 ·have h1':decide (0<=x∧x<=60)=true:=by simpa using h1
  go_enter Tryd.func57,Tryd.ntmps57
  go_wp2_with (go_at_call 35;refine (c_within _ _ _ _).mono ?_;rintro e w' ⟨rfl,rfl⟩)
  go_ret
  exact ⟨by simp [cok,h1],(Below.refl _ _).alloc (Nat.le_refl _) _⟩
 ·have h1':decide (0<=x∧x<=60)=false:=by simpa using h1
  go_enter Tryd.func57,Tryd.ntmps57
  go_wp2_with (go_at_call 35;refine (c_within _ _ _ _).mono ?_;rintro e w' ⟨rfl,rfl⟩)
  go_ret
  exact ⟨by simp [cok,h1],(Below.refl _ _).alloc (Nat.le_refl _) _⟩
set_option maxHeartbeats 1000000 in
theorem c_iCustomersOk (L:List (Int×Int)) (A:Option Addr) (c:Nat) (w:World) (hA:Cs w w.heap.size A L) (hn:L.length<=140737488351232) :
  Calls Tryd.prog 39 #[.slice A L.length c] w fun e w'=>e=.returned (.bool (cOk L))∧Below w.heap.size w w':=by
 by_cases h8:L.length<=8
 ·go_enter Tryd.func39,Tryd.ntmps39
  go_wp2
  go_loopw [3,11] (fun ah i wr=>∃ k:Nat,k<=L.length∧i=.int .i64 k∧ah=.int .i64 (prevOf L k)∧Hid (okTo L k=true)∧Below w.heap.size w wr)
   (fun _ i _=>L.length - (intOf i).toNat)
  case atStart=>exact ⟨0,Nat.zero_le _,rfl,rfl,rfl,Below.refl _ _⟩
  case round =>
   obtain ⟨k,hk,rfl,rfl,hok,hb⟩:=hrel
   by_cases hlt:k < L.length
   ·obtain ⟨b,off,rfl,hlb,hc⟩:=hA (by omega)
    have c1:=(hb.cell (p:=⟨b,off+k * 2,none⟩) hlb).trans (hc k hlt).1
    have c2:=(hb.cell (p:=⟨b,off+k * 2+1,none⟩) hlb).trans (hc k hlt).2
    clear hc
    have hsz:=hb.size
    by_cases hck:cok (X L k) (Y L k)=true
    ·have Hck:=Lib.hid hck;clear hck
     by_cases hp:prevOf L k<=X L k
     all_goals
      go_wp2_with fail
      refine (c_ok _ _ _).mono ?_
      rintro e w1 ⟨rfl,hb1⟩
      obtain ⟨hc1,hf1⟩:=bcell hb1
      rw [Hck.out]
      go_wp2_with fail
     ·go_roundw
      case rel =>
       refine ⟨k+1,by omega,by go_num,rfl,?_,?_⟩
       ·show okTo L (k+1)=true
        simp [okTo,hok.out,okAt_of Hck.out hp]
       ·refine Below.trans ?_ (hb1.mono ?_)
        all_goals (repeat (first | exact hb | exact Below.refl _ _ | (with_reducible refine Below.drew ?_) | (with_reducible refine Below.drewN ?_ _) | (with_reducible refine Below.alloc ?_ ?_ _) | (with_reducible refine Below.setCell ?_ ?_ _) | (show _<=_;focus (first | omega | (simp;done) | (simp;omega)))))
      case measure=>simp [intOf];omega
     ·go_ret
      refine ⟨by simp [cOk,okTo_no hlt (okAt_no2 (by omega))],?_⟩
      refine Below.trans ?_ (hb1.mono ?_)
      all_goals (repeat (first | exact hb | exact Below.refl _ _ | (with_reducible refine Below.drew ?_) | (with_reducible refine Below.drewN ?_ _) | (with_reducible refine Below.alloc ?_ ?_ _) | (with_reducible refine Below.setCell ?_ ?_ _) | (show _<=_;focus (first | omega | (simp;done) | (simp;omega)))))
    ·have hck':cok (X L k) (Y L k)=false:=by simpa using hck
     have Hck:=Lib.hid hck';clear hck hck'
     go_wp2_with fail
     refine (c_ok _ _ _).mono ?_
     rintro e w1 ⟨rfl,hb1⟩
     rw [Hck.out]
     go_wp2_with fail
     go_ret
     refine ⟨by simp [cOk,okTo_no hlt (okAt_no1 Hck.out)],?_⟩
     refine Below.trans ?_ (hb1.mono ?_)
     all_goals (repeat (first | exact hb | exact Below.refl _ _ | (with_reducible refine Below.drew ?_) | (with_reducible refine Below.drewN ?_ _) | (with_reducible refine Below.alloc ?_ ?_ _) | (with_reducible refine Below.setCell ?_ ?_ _) | (show _<=_;focus (first | omega | (simp;done) | (simp;omega)))))
   ·go_wp2_with fail
    go_ret
    exact ⟨by rw [show k=L.length by omega] at hok;simp [cOk,h8,hok.out],hb⟩
 ·go_enter Tryd.func39,Tryd.ntmps39
  go_wp2
  go_ret
  exact ⟨by simp [cOk,h8],Below.refl _ _⟩
end Go.Proofs.YticccnkanihpnaaDoor
namespace Go.Proofs.YticccnkanihpnaaDoor
set_option linter.unusedVariables false
open Go.RowKit
set_option maxHeartbeats 400000 in
theorem c_l1In (a b c:Int) (w:World) :
  Calls Tryd.prog 37 #[.int .i64 a,.int .i64 b,.int .i64 c] w fun e w'=>e=.returned (.bool (decide (b<=a∧a<=c)))∧w'=w:=by
 by_cases h1:b<=a
 ·by_cases h2:a<=c
  all_goals
   go_enter Tryd.func37,Tryd.ntmps37
   go_wp2
   go_ret
   exact ⟨by simp [h1,h2],rfl⟩
 ·go_enter Tryd.func37,Tryd.ntmps37
  go_wp2
  go_ret
  exact ⟨by simp;omega,rfl⟩
end Go.Proofs.YticccnkanihpnaaDoor
namespace Go.Proofs.YticccnkanihpnaaDoor
set_option linter.unusedVariables false
open Go.RowKit
theorem Rd.keepB {w w':World} {base r p B:Nat} (h:Rd w base r p) (hg:Below B w w') (hr:r < B) (hb:base<=B):Rd w' base r p:=by
 obtain ⟨h1,h2,A,n,c,hn,hh,hb'⟩:=h
 exact ⟨h1,Nat.lt_of_lt_of_le h2 hg.size,A,n,c,hn,(hg.block r hr).trans hh,hb'.keep fun k hk=>hg.block k (by omega)⟩
theorem grown_thenB {w w1 w2:World} {r:Nat} (h:w.grownBy w1 (some r)) (hb:Below w.heap.size w1 w2):w.grownBy w2 (some r) :=
 ⟨hb.os.trans h.os,hb.tape.trans h.tape,hb.output.trans h.output,Nat.le_trans h.size hb.size,fun k hk hne=>(hb.block k hk).trans (h.block k hk hne)⟩
theorem CO.grown {w w':World} {base r:Nat} {v:Value} {L:List (Int×Int)} (h:CO w base v L) (hg:w.grownBy w' (some r)) (hr:r < base):CO w' base v L:=by
 refine ⟨h.1,?_⟩
 have hl:=owns_lt h
 rcases h.2 with h2 | ⟨g,cap,cur,rfl,hgb,hh,rest⟩
 ·exact .inl h2
 ·have:=hl g (by simp [Value.ownBlock])
  exact .inr ⟨g,cap,cur,rfl,hgb,by rw [hg.block g (by omega) (by simp;omega)];exact hh,rest⟩
def bdL (L:List (Int×Int)):Prop:=∀ c ∈ L,-1<=c.1∧c.1<=61∧0<=c.2∧c.2<=9
theorem bdL_snoc {L:List (Int×Int)} {c:Int×Int} (h:bdL L) (hc:-1<=c.1∧c.1<=61∧0<=c.2∧c.2<=9):bdL (L++[c]):=by
 intro d hd
 rcases List.mem_append.1 hd with h1 | h1
 ·exact h d h1
 ·simp at h1;subst h1;exact hc
theorem c_pickI (base r p:Nat) (n:Int) (w:World) (h:Rd w base r p) (hp:p<=1000000000) (hn1:1<=n) (hn2:n<=1000) :
  Calls Tryd.prog 44 #[.pointer (some ⟨r,0,none⟩),.int .i64 n] w fun e w'=>∃ x:Nat,(x:Int) < n∧e=.returned (.int .i64 x)∧w.grownBy w' (some r)∧Rd w' base r (p+1):=by
 obtain ⟨m,rfl⟩:=Int.eq_ofNat_of_zero_le (show 0<=n by omega)
 exact (c_pick base r p m w h hp (by omega) (by omega)).mono fun _ _ ⟨x,hx,he⟩=>⟨x,by omega,he⟩
set_option maxHeartbeats 1000000 in
theorem c_odd (base r p n:Nat) (w:World) (h:Rd w base r p) (hp:p<=1000000000) (hn1:1<=n) (hn2:n<=1000) :
  Calls Tryd.prog 49 #[.pointer (some ⟨r,0,none⟩),.int .i64 n] w fun e w'=>∃ b:Bool,e=.returned (.bool b)∧w.grownBy w' (some r)∧Rd w' base r (p+1):=by
 have hn3:(0:Int) < (n:Int):=by omega
 go_enter Tryd.func49,Tryd.ntmps49
 go_wp2_with fail
 refine (c_pick base r p n _ h hp hn1 hn2).mono ?_
 rintro e w1 ⟨x,hx,rfl,hg,hr⟩
 by_cases hb:((x:Int) == (n:Int) - 1)=true
 ·go_wp2_with fail
  go_ret
  exact ⟨_,rfl,hg,hr⟩
 ·have hb':((x:Int) == (n:Int) - 1)=false:=by simpa using hb
  go_wp2_with fail
  go_ret
  exact ⟨_,rfl,hg,hr⟩
end Go.Proofs.YticccnkanihpnaaDoor
namespace Go.Proofs.YticccnkanihpnaaDoor
set_option linter.unusedVariables false
open Go.RowKit
attribute [local go_sem ↓] Go.wp_at_zero Go.wp_at_succ
def wv (L:List (Int×Int)):Nat->Int
 | 0=>0
 | k+1=>waitAt L k
def ay (L:List (Int×Int)):Nat->Int
 | 0=>0
 | k+1=>Y L k
structure WInv (L:List (Int×Int)) (w:World) (B p q b:Nat) (k:Nat) (v:Value) (W:World):Prop where
 below:Below B w W
 hp:B<=p
 hpq:p < q
 hqb:q < b
 hb:b<=W.heap.size
 cp:W.heap[p]?=some (.cells #[.int .i64 (wv L k)] 3 (0,0))
 cq:W.heap[q]?=some (.cells #[.int .i64 (prevOf L k),.int .i64 (ay L k)] 63 (0,0))
 own:IO W b v (waitsTo L k)
theorem WInv.keep {L:List (Int×Int)} {w:World} {B p q b k:Nat} {v:Value} {W W':World} (h:WInv L w B p q b k v W) (hW:Below W.heap.size W W'):WInv L w B p q b k v W':=by
 obtain ⟨h1,h2,h3,h4,h5,h6,h7,h8⟩:=h
 have hs:=hW.size
 exact ⟨h1.trans (hW.mono (by omega)),h2,h3,h4,by omega,(hW.block p (by omega)).trans h6,(hW.block q (by omega)).trans h7,h8.below hW (Nat.le_refl _)⟩
end Go.Proofs.YticccnkanihpnaaDoor
namespace Go.Proofs.YticccnkanihpnaaDoor
set_option linter.unusedVariables false
open Go.RowKit
attribute [local go_sem ↓] Go.wp_at_zero Go.wp_at_succ
end Go.Proofs.YticccnkanihpnaaDoor
namespace Go.Proofs.YticccnkanihpnaaDoor
set_option linter.unusedVariables false
open Go.RowKit
theorem CO.grownR' {w w':World} {base:Nat} {row:Option Nat} {v:Value} {L:List (Int×Int)} (h:CO w base v L) (hg:w.grownBy w' row) (hr:∀ r,v.ownBlock=some r->row≠some r):CO w' base v L:=by
 have hl:=owns_lt h
 refine ⟨h.1,?_⟩
 rcases h.2 with h2 | ⟨g,cap,cur,rfl,hgb,hh,rest⟩
 ·exact .inl h2
 ·have:=hl g (by simp [Value.ownBlock])
  exact .inr ⟨g,cap,cur,rfl,hgb,by rw [hg.block g (by omega) (fun e=>hr g (by simp [Value.ownBlock]) e.symm)];exact hh,rest⟩
section
variable {w:World}
end
structure COO (w:World) (base:Nat) (v:Value) (xss:List (List (Int×Int))) (vs:List Value):Prop where
 row:w.ownsRow base 51 1 v xss.length vs
 inner:∀ k,k < xss.length->CO w base (vs.getD k undef) (xss.getD k [])
 apart:∀ k,k < xss.length->∀ r,(vs.getD k undef).ownBlock=some r->v.ownBlock≠some r
 diff:∀ i j,i < xss.length->j < xss.length->i≠j->∀ r,(vs.getD i undef).ownBlock=some r->(vs.getD j undef).ownBlock≠some r
theorem COO.len {w:World} {base:Nat} {v:Value} {xss:List (List (Int×Int))} {vs:List Value} (h:COO w base v xss vs):vs.length=xss.length:=by
 have:=h.row.1
 omega
theorem COO.nil (w:World) (base:Nat):COO w base (.slice none 0 0) [] []:=⟨⟨rfl,.inl ⟨rfl,rfl⟩⟩,fun k h=>by simp at h,fun k h=>by simp at h,fun i j h=>by simp at h⟩
theorem COO.empty (w:World) {base:Nat} (h:base<=w.heap.size):COO (w.alloc (.cells #[] 51)) base (.slice (some ⟨w.heap.size,0,none⟩) 0 0) [] [] :=
 ⟨⟨rfl,.inr ⟨w.heap.size,0,#[],rfl,h,heap_alloc_new _ _,Nat.le_refl _,by simp [maxLen],rfl,rfl⟩⟩,fun k h=>by simp at h,fun k h=>by simp at h,fun i j h=>by simp at h⟩
theorem COO.below {w w':World} {base B:Nat} {v:Value} {xss:List (List (Int×Int))} {vs:List Value} (h:COO w base v xss vs) (hb:Below B w w') (hB:w.heap.size<=B):COO w' base v xss vs :=
 ⟨owns_below h.row hb hB,fun k hk=>(h.inner k hk).below hb hB,h.apart,h.diff⟩
theorem COO.mono {w:World} {base base':Nat} {v:Value} {xss:List (List (Int×Int))} {vs:List Value} (h:COO w base v xss vs) (hB:base'<=base):COO w base' v xss vs :=
 ⟨owns_mono h.row hB,fun k hk=>(h.inner k hk).mono hB,h.apart,h.diff⟩
theorem COO.form {w:World} {base:Nat} {v:Value} {xss:List (List (Int×Int))} {vs:List Value} (h:COO w base v xss vs) :
  ∃ A c,v=.slice A xss.length c∧xss.length<=c∧c<=maxLen∧(0 < xss.length->∃ g,A=some ⟨g,0,none⟩∧base<=g∧g < w.heap.size∧(∀ k,k < xss.length->w.cell? ⟨g,k,none⟩=some (vs.getD k undef))∧∀ j,w.frozen? ⟨g,j,none⟩=false):=by
 have hl:=owns_lt h.row
 have hn:=h.len
 rcases h.row.2 with ⟨rfl,h0⟩ | ⟨g,cap,cur,rfl,hg,hh,h1,h2,h3,h4⟩
 ·exact ⟨none,0,by rw [h0],by omega,by simp [maxLen],fun hp=>by omega⟩
 ·refine ⟨_,cap,rfl,h1,h2,fun _=>⟨g,rfl,hg,hl g (by simp [Value.ownBlock]),fun k hk=>?_,fun j=>World.ownsRow.frozenAt h.row j⟩⟩
  rw [World.ownsRow.cellAt h.row k (by omega)]
  simp [List.getD,List.getElem?_eq_getElem (show k < vs.length by omega)]
theorem COO.cells {w:World} {base g n c:Nat} {xss:List (List (Int×Int))} {vs:List Value} (h:COO w base (.slice (some ⟨g,0,none⟩) n c) xss vs) :
  n=xss.length∧(∀ k,k < n->w.cell? ⟨g,k,none⟩=some (vs.getD k undef))∧∀ j,w.frozen? ⟨g,j,none⟩=false:=by
 have hn:n=xss.length:=by
  rcases h.row.2 with ⟨h2,_⟩ | ⟨g',cap,cur,h2,_⟩
  ·cases h2
  ·injection h2
 subst hn
 refine ⟨rfl,fun k hk=>?_,fun j=>World.ownsRow.frozenAt h.row j⟩
 have:=h.len
 rw [World.ownsRow.cellAt h.row k (by omega)]
 simp [List.getD,List.getElem?_eq_getElem (show k < vs.length by omega)]
end Go.Proofs.YticccnkanihpnaaDoor
namespace Go.Proofs.YticccnkanihpnaaDoor
set_option linter.unusedVariables false
open Go.RowKit
def dig8 (n:Nat):UInt8:=UInt8.ofNat (48+n % 10)
def numL (n:Nat):List UInt8:=if n < 10 then [dig8 n] else numL (n / 10)++[dig8 n]
termination_by n
theorem numL_one {n:Nat} (h:n < 10):numL n=[dig8 n]:=by rw [numL,if_pos h]
theorem numL_more {n:Nat} (h:¬ n < 10):numL n=numL (n / 10)++[dig8 n]:=by rw [numL,if_neg h]
theorem dig8_nat (n:Nat):(dig8 n).toNat=48+n % 10:=by
 have:n % 10 < 10:=Nat.mod_lt _ (by omega)
 simp [dig8,UInt8.toNat_ofNat'];omega
def isD (c:UInt8):Bool:=decide (48<=c.toNat∧c.toNat<=57)
def valN (l:List UInt8):Nat:=l.foldl (fun n c=>10 * n+(c.toNat - 48)) 0
theorem valN_snoc (l:List UInt8) (c:UInt8):valN (l++[c])=10 * valN l+(c.toNat - 48):=by simp [valN]
theorem dig8_isD (n:Nat):isD (dig8 n)=true:=by
 have:n % 10 < 10:=Nat.mod_lt _ (by omega)
 simp only [isD,dig8_nat,decide_eq_true_eq];omega
theorem numL_all (n:Nat):(numL n).all isD=true:=by
 induction n using Nat.strongRecOn with
 | _ n ih =>
  by_cases h:n < 10
  ·rw [numL_one h];simp [dig8_isD]
  ·rw [numL_more h,List.all_append,ih (n / 10) (by omega)];simp [dig8_isD]
theorem numL_val (n:Nat):valN (numL n)=n:=by
 induction n using Nat.strongRecOn with
 | _ n ih =>
  by_cases h:n < 10
  ·rw [numL_one h];simp only [valN,List.foldl,dig8_nat];omega
  ·rw [numL_more h,valN_snoc,ih (n / 10) (by omega),dig8_nat];omega
theorem numL_ne (n:Nat):1<=(numL n).length:=by
 by_cases h:n < 10
 ·rw [numL_one h];simp
 ·rw [numL_more h];simp
theorem numL_len:∀ (k n:Nat),n < 10 ^ (k+1)->(numL n).length<=k+1:=by
 intro k
 induction k with
 | zero=>intro n h;rw [numL_one (by simpa using h)];simp
 | succ k ih =>
  intro n h
  by_cases h1:n < 10
  ·rw [numL_one h1];simp
  ·rw [numL_more h1]
   have:=ih (n / 10) (by rw [Nat.pow_succ] at h;omega)
   simp;omega
theorem dig8_zero {n:Nat} (h:dig8 n=48):n % 10=0:=by
 have e:=congrArg UInt8.toNat h
 rw [dig8_nat] at e
 have:(48:UInt8).toNat=48:=rfl
 omega
theorem numL_head (n:Nat) (h:1<=n):(numL n).head?≠some 48:=by
 induction n using Nat.strongRecOn with
 | _ n ih =>
  by_cases h1:n < 10
  ·rw [numL_one h1]
   intro e
   simp only [List.head?_cons,Option.some.injEq] at e
   have:=dig8_zero e;omega
  ·rw [numL_more h1,List.head?_append]
   have:=ih (n / 10) (by omega) (by omega)
   have hne:=numL_ne (n / 10)
   cases hx:numL (n / 10) with
   | nil=>rw [hx] at hne;simp at hne
   | cons c l=>rw [hx] at this;simpa using this
theorem numL_lead (n:Nat):1 < (numL n).length->(numL n).head?≠some 48:=by
 intro h
 refine numL_head n ?_
 cases n with
 | zero=>rw [numL_one (by omega)] at h;simp at h
 | succ n=>omega
theorem numL_inj {a b:Nat} (h:numL a=numL b):a=b:=by rw [<- numL_val a,h,numL_val]
theorem isD_nat {c:UInt8} (h:isD c=true):48<=c.toNat∧c.toNat<=57:=by simpa [isD] using h
theorem dig8_of {c:UInt8} (h:isD c=true) {n:Nat} (hn:n % 10=c.toNat - 48):dig8 n=c:=by
 have:=isD_nat h
 apply UInt8.toNat_inj.1
 rw [dig8_nat];omega
theorem valN_pos:∀ l:List UInt8,l.all isD=true->l.head?≠some 48->l≠[]->1<=valN l:=by
 have key:∀ (l:List UInt8) (n:Nat),n<=l.foldl (fun n c=>10 * n+(c.toNat - 48)) n:=by
  intro l
  induction l with
  | nil=>intro n;exact Nat.le_refl _
  | cons c l ih=>intro n;have:=ih (10 * n+(c.toNat - 48));simp only [List.foldl];omega
 intro l ha hh hne
 cases l with
 | nil=>exact absurd rfl hne
 | cons c l =>
  simp only [List.all_cons,Bool.and_eq_true] at ha
  have hc:=isD_nat ha.1
  have hz:c≠48:=by simpa using hh
  have:c.toNat≠48:=fun e=>hz (UInt8.toNat_inj.1 (by rw [e];rfl))
  have:=key l (10 * 0+(c.toNat - 48))
  simp only [valN,List.foldl];omega
theorem num_of:∀ (m:Nat) (l:List UInt8),l.length=m->l≠[]->l.all isD=true->(1 < l.length->l.head?≠some 48)->numL (valN l)=l:=by
 intro m
 induction m with
 | zero=>intro l hl hne;exact absurd (List.length_eq_zero_iff.1 hl) hne
 | succ m ih =>
  intro l hl hne ha hh
  obtain ⟨l',c,rfl⟩:∃ l' c,l=l'++[c]:=⟨l.dropLast,l.getLast hne,(List.dropLast_concat_getLast hne).symm⟩
  simp only [List.all_append,Bool.and_eq_true,List.all_cons,List.all_nil,and_true] at ha
  have hc:=isD_nat ha.2
  rw [valN_snoc]
  by_cases h0:l'=[]
  ·subst h0
   rw [show valN []=0 from rfl,numL_one (by omega)]
   simp only [List.nil_append,List.cons.injEq,and_true]
   exact dig8_of ha.2 (by omega)
  ·have hl1:l'.length=m:=by simp at hl;exact hl
   have hp:0 < l'.length:=List.length_pos_iff.2 h0
   have hh1:l'.head?≠some 48:=by
    have:=hh (by simp;omega)
    rw [List.head?_append] at this
    cases hx:l' with
    | nil=>exact absurd hx h0
    | cons d r=>rw [hx] at this;simpa using this
   have hv:=valN_pos l' ha.1 hh1 h0
   rw [numL_more (by omega),show (10 * valN l'+(c.toNat - 48)) / 10=valN l' by omega,ih l' hl1 h0 ha.1 (fun _=>hh1),dig8_of ha.2 (by omega)]
def digOk (l:List UInt8):Bool:=decide (1<=l.length∧l.length<=6) && !(decide (1 < l.length) && l.head? == some 48) && l.all isD
def digL (l:List UInt8):Int:=if digOk l=true then (valN l:Int) else -1
theorem digOk_parts {l:List UInt8} (h:digOk l=true):(1<=l.length∧l.length<=6)∧(1 < l.length->l.head?≠some 48)∧l.all isD=true:=by
 simp only [digOk,Bool.and_eq_true,decide_eq_true_eq,Bool.not_eq_true',Bool.and_eq_false_iff,decide_eq_false_iff_not] at h
 refine ⟨h.1.1,fun h1 e=>?_,h.2⟩
 rcases h.1.2 with h2 | h2
 ·exact h2 h1
 ·rw [e] at h2;simp at h2
theorem digL_num {n:Nat} (h:n < 1000000):digL (numL n)=n:=by
 have h1:=numL_ne n
 have h2:=numL_len 5 n (by simpa using h)
 have h3:=numL_all n
 have h4:=numL_lead n
 have:digOk (numL n)=true:=by
  simp only [digOk,Bool.and_eq_true,decide_eq_true_eq,h3,and_true,Bool.not_eq_true',Bool.and_eq_false_iff,decide_eq_false_iff_not]
  refine ⟨by omega,?_⟩
  by_cases h5:1 < (numL n).length
  ·right
   have:=h4 h5
   cases hx:(numL n).head? with
   | none=>rfl
   | some c=>rw [hx] at this;simpa using this
  ·exact .inl h5
 rw [digL,if_pos this,numL_val]
def cutS (sep:UInt8) (l:List UInt8):List (List UInt8)×List UInt8:=l.foldl (fun s c=>if c=sep then (s.1++[s.2],[]) else (s.1,s.2++[c])) ([],[])
def cutL (sep:UInt8) (l:List UInt8):List (List UInt8):=(cutS sep l).1++[(cutS sep l).2]
theorem cutS_snoc (sep:UInt8) (l:List UInt8) (c:UInt8):cutS sep (l++[c])=if c=sep then ((cutS sep l).1++[(cutS sep l).2],[]) else ((cutS sep l).1,(cutS sep l).2++[c]):=by
 simp [cutS]
theorem cutS_word {sep:UInt8} (l:List UInt8):∀ (w:List UInt8),sep ∉ w->cutS sep (l++w)=((cutS sep l).1,(cutS sep l).2++w):=by
 intro w
 have key:∀ (w:List UInt8) (s:List (List UInt8)×List UInt8),sep ∉ w->w.foldl (fun s c=>if c=sep then (s.1++[s.2],[]) else (s.1,s.2++[c])) s=(s.1,s.2++w):=by
  intro w
  induction w with
  | nil=>intro s _;simp
  | cons c w ih =>
   intro s h
   simp only [List.mem_cons,not_or] at h
   simp only [List.foldl]
   rw [if_neg (fun e=>h.1 e.symm),ih _ h.2]
   simp
 intro h
 rw [cutS,List.foldl_append]
 exact key w _ h
theorem cutS_sep (sep:UInt8) (l:List UInt8):cutS sep (l++[sep])=((cutS sep l).1++[(cutS sep l).2],[]):=by rw [cutS_snoc,if_pos rfl]
theorem cutS_len (sep:UInt8) (l:List UInt8):(cutS sep l).1.length<=l.length:=by
 have key:∀ (l:List UInt8) (s:List (List UInt8)×List UInt8),(l.foldl (fun s c=>if c=sep then (s.1++[s.2],[]) else (s.1,s.2++[c])) s).1.length<=s.1.length+l.length:=by
  intro l
  induction l with
  | nil=>intro s;simp
  | cons c l ih =>
   intro s
   simp only [List.foldl]
   split
   ·have:=ih (s.1++[s.2],[]);simp at this ⊢;omega
   ·have:=ih (s.1,s.2++[c]);simp at this ⊢;omega
 have:=key l ([],[])
 simpa [cutS] using this
theorem numL_no32 (n:Nat):(32:UInt8) ∉ numL n:=by
 intro h
 have:=List.all_eq_true.1 (numL_all n) _ h
 simp [isD] at this
theorem cut_two (u v:List UInt8) (hu:(32:UInt8) ∉ u) (hv:(32:UInt8) ∉ v):cutL 32 (u++[32]++v)=[u,v]:=by
 rw [cutL,cutS_word _ _ hv,cutS_sep,show u=[]++u by simp,cutS_word _ _ hu];simp [cutS]
theorem cut_three (u v x:List UInt8) (hu:(32:UInt8) ∉ u) (hv:(32:UInt8) ∉ v) (hx:(32:UInt8) ∉ x):cutL 32 (u++[32]++v++[32]++x)=[u,v,x]:=by
 rw [cutL,cutS_word _ _ hx,cutS_sep,cutS_word _ _ hv,cutS_sep,show u=[]++u by simp,cutS_word _ _ hu];simp [cutS]
structure DV where
 k:Int
 a:Int
 b:Int
deriving DecidableEq
def wCome:List UInt8:=[99,111,109,101]
def wNeed:List UInt8:=[110,101,101,100]
def wLater:List UInt8:=[108,97,116,101,114]
def wGo:List UInt8:=[103,111]
def wBack:List UInt8:=[98,97,99,107]
def deedL (d:DV):List UInt8 :=
 if d.k=0∧(0<=d.a∧d.a<=99)∧(0<=d.b∧d.b<=99) then wCome++[32]++numL d.a.toNat++[32]++numL d.b.toNat
 else if d.k=2∧(0<=d.a∧d.a<=99)∧d.b=0 then wNeed++[32]++numL d.a.toNat
 else if d.k=3∧(0<=d.a∧d.a<=99)∧d.b=0 then wLater++[32]++numL d.a.toNat
 else if d=⟨1,0,0⟩ then wGo
 else if d=⟨4,0,0⟩ then wBack
 else []
def candL (s:List UInt8):List DV :=
 [⟨1,0,0⟩,⟨4,0,0⟩]
   ++ (if (cutL 32 s).length=3 then [⟨0,digL ((cutL 32 s).getD 1 []),digL ((cutL 32 s).getD 2 [])⟩] else [])
   ++ (if (cutL 32 s).length=2 then [⟨2,digL ((cutL 32 s).getD 1 []),0⟩,⟨3,digL ((cutL 32 s).getD 1 []),0⟩] else [])
def readD (s:List UInt8):Option DV:=(candL s).find? fun d=>decide (s≠[]) && decide (deedL d=s)
theorem deed_ways (d:DV):deedL d=[]∨(d.k=0∧(0<=d.a∧d.a<=99)∧(0<=d.b∧d.b<=99)∧deedL d=wCome++[32]++numL d.a.toNat++[32]++numL d.b.toNat)
  ∨ (d.k=2∧(0<=d.a∧d.a<=99)∧d.b=0∧deedL d=wNeed++[32]++numL d.a.toNat)
  ∨ (d.k=3∧(0<=d.a∧d.a<=99)∧d.b=0∧deedL d=wLater++[32]++numL d.a.toNat)
  ∨ (d=⟨1,0,0⟩∧deedL d=wGo)∨(d=⟨4,0,0⟩∧deedL d=wBack):=by
 unfold deedL
 split
 ·rename_i h;exact .inr (.inl ⟨h.1,h.2.1,h.2.2,rfl⟩)
 ·split
  ·rename_i h;exact .inr (.inr (.inl ⟨h.1,h.2.1,h.2.2,rfl⟩))
  ·split
   ·rename_i h;exact .inr (.inr (.inr (.inl ⟨h.1,h.2.1,h.2.2,rfl⟩)))
   ·split
    ·rename_i h;exact .inr (.inr (.inr (.inr (.inl ⟨h,rfl⟩))))
    ·split
     ·rename_i h;exact .inr (.inr (.inr (.inr (.inr ⟨h,rfl⟩))))
     ·exact .inl rfl
theorem deed_inj {c d:DV} (h:deedL c=deedL d) (hne:deedL d≠[]):c=d:=by
 have n3:=fun n=>numL_no32 n
 obtain ⟨ck,ca,cb⟩:=c
 obtain ⟨dk,da,db⟩:=d
 have hc:=deed_ways ⟨ck,ca,cb⟩
 have hd:=deed_ways ⟨dk,da,db⟩
 rw [h] at hc
 simp only [DV.mk.injEq] at hc hd ⊢
 rcases hd with e | ⟨d1,d2,d3,e⟩ | ⟨d1,d2,d3,e⟩ | ⟨d1,d2,d3,e⟩ | ⟨d1,e⟩ | ⟨d1,e⟩
 ·exact absurd e hne
 all_goals rw [e] at hc
 all_goals rcases hc with g | ⟨c1,c2,c3,g⟩ | ⟨c1,c2,c3,g⟩ | ⟨c1,c2,c3,g⟩ | ⟨c1,g⟩ | ⟨c1,g⟩
 all_goals first
  | (exfalso;simp [wCome,wNeed,wLater,wGo,wBack] at g;done)
  | skip
 ·have w1:=cut_three wCome (numL da.toNat) (numL db.toNat) (by decide) (n3 _) (n3 _)
  have w2:=cut_three wCome (numL ca.toNat) (numL cb.toNat) (by decide) (n3 _) (n3 _)
  rw [g,w2] at w1
  injection w1 with _ w1
  injection w1 with w3 w1
  injection w1 with w4 _
  have:=numL_inj w3
  have:=numL_inj w4
  omega
 ·have w3:=numL_inj (List.append_cancel_left g)
  omega
 ·have w3:=numL_inj (List.append_cancel_left g)
  omega
 ·omega
 ·omega
theorem deed_cand (d:DV) (hne:deedL d≠[]):d ∈ candL (deedL d):=by
 have n3:=fun n=>numL_no32 n
 obtain ⟨dk,da,db⟩:=d
 have hd:=deed_ways ⟨dk,da,db⟩
 simp only [DV.mk.injEq] at hd
 rcases hd with e | ⟨d1,d2,d3,e⟩ | ⟨d1,d2,d3,e⟩ | ⟨d1,d2,d3,e⟩ | ⟨d1,e⟩ | ⟨d1,e⟩
 ·exact absurd e hne
 all_goals rw [e]
 ·have w1:=cut_three wCome (numL da.toNat) (numL db.toNat) (by decide) (n3 _) (n3 _)
  simp only [candL,w1]
  simp only [List.length_cons,List.length_nil,List.getD_cons_succ,List.getD_cons_zero,Nat.zero_add,Nat.reduceAdd,if_true,List.mem_append,List.mem_cons,DV.mk.injEq]
  rw [digL_num (by omega),digL_num (by omega)]
  exact .inl (.inr (.inl ⟨d1,by omega,by omega⟩))
 ·have w1:=cut_two wNeed (numL da.toNat) (by decide) (n3 _)
  simp only [candL,w1]
  simp only [List.length_cons,List.length_nil,List.getD_cons_succ,List.getD_cons_zero,Nat.zero_add,Nat.reduceAdd,if_true,List.mem_append,List.mem_cons,DV.mk.injEq]
  rw [digL_num (by omega)]
  exact .inr (.inl ⟨d1,by omega,d3⟩)
 ·have w1:=cut_two wLater (numL da.toNat) (by decide) (n3 _)
  simp only [candL,w1]
  simp only [List.length_cons,List.length_nil,List.getD_cons_succ,List.getD_cons_zero,Nat.zero_add,Nat.reduceAdd,if_true,List.mem_append,List.mem_cons,DV.mk.injEq]
  rw [digL_num (by omega)]
  exact .inr (.inr (.inl ⟨d1,by omega,d3⟩))
 ·obtain ⟨rfl,rfl,rfl⟩:=d1
  simp [candL]
 ·obtain ⟨rfl,rfl,rfl⟩:=d1
  simp [candL]
theorem read_text {s:List UInt8} {d:DV} (h:readD s=some d):deedL d=s∧s≠[]:=by
 have:=List.find?_some h
 simp only [Bool.and_eq_true,decide_eq_true_eq] at this
 exact ⟨this.2,this.1⟩
theorem deed_read (d:DV) (hne:deedL d≠[]):readD (deedL d)=some d:=by
 cases h:readD (deedL d) with
 | some c=>rw [deed_inj (read_text h).1 hne]
 | none =>
  have:=List.find?_eq_none.1 h d (deed_cand d hne)
  simp [hne] at this
end Go.Proofs.YticccnkanihpnaaDoor

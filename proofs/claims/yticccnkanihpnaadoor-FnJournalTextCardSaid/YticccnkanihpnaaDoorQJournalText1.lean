import Derived.WalkKit
import Derived.Deep.QuietTactic
import Derived.BigQuiet
import Derived.WalkSpells
import Derived.Lib.Hide
import Derived.Test.YticccnkanihpnaaDoorProg
import Derived.Deep.RegionHeld3
import Derived.Deep.AppendLies
import Derived.Deep.DrawnRows
import Derived.StillTail
import Derived.Deep.Quiet
import Derived.ArgAppend
import Derived.Laws.IdiomCopy
import Derived.Lib.LaidTab
import Derived.Lib.ItoaNum
import Derived.Test.YticccnkanihpnaaDoorRows
import Derived.Stop.LaidErr
import Derived.Deep.DeepHandedRow
import Derived.Shelf.Vars
import Derived.Deep.Upon
import Derived.OwnWalk
namespace Go.Proofs.YticccnkanihpnaaDoor
set_option linter.unusedVariables false
open Go.RowKit
def X (L:List (Int×Int)) (k:Nat):Int:=(L.getD k (0,0)).1
def Y (L:List (Int×Int)) (k:Nat):Int:=(L.getD k (0,0)).2
def cok (x y:Int):Bool:=decide (0<=x∧x<=60) && decide (1<=y∧y<=9)
def prevOf (L:List (Int×Int)) (k:Nat):Int:=if k=0 then 0 else X L (k - 1)
def okAt (L:List (Int×Int)) (k:Nat):Bool:=cok (X L k) (Y L k) && decide (prevOf L k<=X L k)
def okTo (L:List (Int×Int)):Nat->Bool
 | 0=>true
 | k+1=>okTo L k && okAt L k
def cOk (L:List (Int×Int)):Bool:=decide (L.length<=8) && okTo L L.length
theorem okTo_le {L:List (Int×Int)} {n:Nat} (h:okTo L n=true):∀ k,k<=n->okTo L k=true:=by
 induction n with
 | zero=>intro k hk;obtain rfl:k=0:=by omega
         exact h
 | succ n ih =>
  intro k hk
  simp only [okTo,Bool.and_eq_true] at h
  by_cases e:k=n+1
  ·subst e;simp [okTo,h]
  ·exact ih h.1 k (by omega)
theorem okTo_no {L:List (Int×Int)} {k n:Nat} (hk:k < n) (h:okAt L k=false):okTo L n=false:=by
 cases e:okTo L n with
 | false=>rfl
 | true=>have:=okTo_le e (k+1) (by omega);simp [okTo,h] at this
def Cells (w:World) (b off:Nat) (L:List (Int×Int)):Prop :=
 ∀ k,k < L.length->w.cell? ⟨b,off+k * 2,none⟩=some (.int .i64 (X L k))∧w.cell? ⟨b,off+k * 2+1,none⟩=some (.int .i64 (Y L k))
def Cs (w:World) (B:Nat) (A:Option Addr) (L:List (Int×Int)):Prop :=
 0 < L.length->∃ b off,A=some ⟨b,off,none⟩∧b < B∧Cells w b off L
theorem Cs.below {w w':World} {B:Nat} {A:Option Addr} {L:List (Int×Int)} (h:Cs w B A L) (hb:Below B w w'):Cs w' B A L:=by
 intro hn
 obtain ⟨b,off,rfl,hlt,hc⟩:=h hn
 exact ⟨b,off,rfl,hlt,fun k hk=>⟨(hb.cell (p:=⟨b,_,none⟩) hlt).trans (hc k hk).1,(hb.cell (p:=⟨b,_,none⟩) hlt).trans (hc k hk).2⟩⟩
theorem okAt_of {L:List (Int×Int)} {k:Nat} (h1:cok (X L k) (Y L k)=true) (h2:prevOf L k<=X L k):okAt L k=true:=by simp [okAt,h1,h2]
theorem okAt_no1 {L:List (Int×Int)} {k:Nat} (h1:cok (X L k) (Y L k)=false):okAt L k=false:=by simp [okAt,h1]
theorem okAt_no2 {L:List (Int×Int)} {k:Nat} (h2:X L k < prevOf L k):okAt L k=false:=by simp [okAt];omega
theorem Cs.more {w:World} {B B':Nat} {A:Option Addr} {L:List (Int×Int)} (h:Cs w B A L) (hb:B<=B'):Cs w B' A L:=by
 intro hn
 obtain ⟨b,off,rfl,hlt,hc⟩:=h hn
 exact ⟨b,off,rfl,by omega,hc⟩
theorem Below.drewN {B:Nat} {a w:World} (h:Below B a w) (n:Nat):Below B a (w.drewN n):=⟨h.os,h.tape,h.output,h.size,h.block⟩
theorem bcell {W w1:World} (hb:Below W.heap.size W w1):(∀ b o,b < W.heap.size->w1.cell? ⟨b,o,none⟩=W.cell? ⟨b,o,none⟩)∧(∀ b o,b < W.heap.size->w1.frozen? ⟨b,o,none⟩=W.frozen? ⟨b,o,none⟩) :=
 ⟨fun b o h=>hb.cell (p:=⟨b,o,none⟩) h,fun b o h=>hb.frozen (p:=⟨b,o,none⟩) h⟩
end Go.Proofs.YticccnkanihpnaaDoor
namespace Go.Proofs.YticccnkanihpnaaDoor
set_option linter.unusedVariables false
open Go.RowKit
theorem X_take {L:List (Int×Int)} {n k:Nat} (h:k < n):X (L.take n) k=X L k:=by simp [X,h]
theorem Y_take {L:List (Int×Int)} {n k:Nat} (h:k < n):Y (L.take n) k=Y L k:=by simp [Y,h]
theorem Cs.take {w:World} {B:Nat} {A:Option Addr} {L:List (Int×Int)} (h:Cs w B A L) (n:Nat):Cs w B A (L.take n):=by
 intro hn
 simp only [List.length_take] at hn
 obtain ⟨b,off,rfl,hlt,hc⟩:=h (by omega)
 refine ⟨b,off,rfl,hlt,fun k hk=>?_⟩
 simp only [List.length_take] at hk
 rw [X_take (by omega),Y_take (by omega)]
 exact hc k (by omega)
end Go.Proofs.YticccnkanihpnaaDoor
namespace Go.Proofs.YticccnkanihpnaaDoor
set_option linter.unusedVariables false
open Go.RowKit
end Go.Proofs.YticccnkanihpnaaDoor
namespace Go.Proofs.YticccnkanihpnaaDoor
set_option linter.unusedVariables false
open Go.RowKit
end Go.Proofs.YticccnkanihpnaaDoor
namespace Go.Proofs.YticccnkanihpnaaDoor
set_option linter.unusedVariables false
open Go.RowKit
end Go.Proofs.YticccnkanihpnaaDoor
namespace Go.Proofs.YticccnkanihpnaaDoor
set_option linter.unusedVariables false
open Go.RowKit
def waitAt (L:List (Int×Int)):Nat->Int
 | 0=>0
 | k+1=>max (waitAt L k+Y L k - (X L (k+1) - X L k)) 0
def waitsTo (L:List (Int×Int)) (k:Nat):List Int:=(List.range k).map (waitAt L)
end Go.Proofs.YticccnkanihpnaaDoor
namespace Go.Proofs.YticccnkanihpnaaDoor
set_option linter.unusedVariables false
open Go.RowKit
end Go.Proofs.YticccnkanihpnaaDoor
namespace Go.Proofs.YticccnkanihpnaaDoor
set_option linter.unusedVariables false
open Go.RowKit
end Go.Proofs.YticccnkanihpnaaDoor
namespace Go.Proofs.YticccnkanihpnaaDoor
set_option linter.unusedVariables false
open Go.RowKit
def placesTo (L:List (Int×Int)) (b e:Int):Nat->List Int
 | 0=>[]
 | j+1=>if b<=X L j∧X L j<=e - 1 then placesTo L b e j++[(j:Int)] else placesTo L b e j
def places (L:List (Int×Int)) (b e:Int):List Int:=placesTo L b e L.length
section
variable {L:List (Int×Int)} {t:Nat} {B:List (Int×Int)}
end
end Go.Proofs.YticccnkanihpnaaDoor
namespace Go.Proofs.YticccnkanihpnaaDoor
set_option linter.unusedVariables false
open Go.RowKit
theorem infoI:(Tryd.prog.info? 3).map (fun i=>(i.zero,i.size,i.bytes))=some (some (.int .i64 0),1,8):=by kernel_rfl
theorem infoC:(Tryd.prog.info? 63).map (fun i=>(i.zero,i.size,i.bytes))=some (some (.agg #[.int .i64 0,.int .i64 0]),2,16):=by kernel_rfl
def Z (xs:List Int) (k:Nat):Int:=xs.getD k 0
def Is (w:World) (B:Nat) (A:Option Addr) (xs:List Int):Prop :=
 0 < xs.length->∃ b off,A=some ⟨b,off,none⟩∧b < B∧∀ k,k < xs.length->w.cell? ⟨b,off+k,none⟩=some (.int .i64 (Z xs k))
theorem Is.below {w w':World} {B:Nat} {A:Option Addr} {xs:List Int} (h:Is w B A xs) (hb:Below B w w'):Is w' B A xs:=by
 intro hn
 obtain ⟨b,off,rfl,hlt,hc⟩:=h hn
 exact ⟨b,off,rfl,hlt,fun k hk=>(hb.cell (p:=⟨b,_,none⟩) hlt).trans (hc k hk)⟩
theorem Is.more {w:World} {B B':Nat} {A:Option Addr} {xs:List Int} (h:Is w B A xs) (hb:B<=B'):Is w B' A xs:=by
 intro hn
 obtain ⟨b,off,rfl,hlt,hc⟩:=h hn
 exact ⟨b,off,rfl,by omega,hc⟩
def IO (w:World) (base:Nat) (v:Value) (xs:List Int):Prop:=w.ownsRow base 3 1 v xs.length (xs.map (Value.int .i64))
def flatC (L:List (Int×Int)):List Value:=L.flatMap fun c=>[.int .i64 c.1,.int .i64 c.2]
def CO (w:World) (base:Nat) (v:Value) (L:List (Int×Int)):Prop:=w.ownsRow base 63 2 v L.length (flatC L)
theorem flatC_at (L:List (Int×Int)):∀ k,k < L.length->(flatC L)[k * 2]?=some (.int .i64 (X L k))∧(flatC L)[k * 2+1]?=some (.int .i64 (Y L k)):=by
 induction L with
 | nil=>intro k hk;simp at hk
 | cons c L ih =>
  intro k hk
  cases k with
  | zero=>exact ⟨rfl,rfl⟩
  | succ k =>
   have:=ih k (by simpa using hk)
   have e1:(k+1) * 2=k * 2+1+1:=by omega
   simp only [flatC,List.flatMap_cons,e1,List.cons_append,List.nil_append,List.getElem?_cons_succ,X,Y,List.getD_cons_succ] at this ⊢
   exact this
theorem flatC_snoc (L:List (Int×Int)) (c:Int×Int):flatC (L++[c])=flatC L++[.int .i64 c.1,.int .i64 c.2]:=by simp [flatC]
theorem owns_base {w:World} {base:Nat} {e:TypeId} {size:Nat} {v:Value} {n:Nat} {xs:List Value} (h:w.ownsRow base e size v n xs):∀ k,v.ownBlock=some k->base<=k:=by
 intro k hk
 rcases h.2 with ⟨rfl,_⟩ | ⟨g,cap,cur,rfl,hg,_⟩
 ·simp [Value.ownBlock] at hk
 ·simp [Value.ownBlock] at hk;omega
theorem owns_lt {w:World} {base:Nat} {e:TypeId} {size:Nat} {v:Value} {n:Nat} {xs:List Value} (h:w.ownsRow base e size v n xs):∀ k,v.ownBlock=some k->k < w.heap.size:=by
 intro k hk
 rcases h.2 with ⟨rfl,_⟩ | ⟨g,cap,cur,rfl,hg,hh,_⟩
 ·simp [Value.ownBlock] at hk
 ·simp [Value.ownBlock] at hk;subst hk
  rcases Nat.lt_or_ge g w.heap.size with h | h
  ·exact h
  ·rw [Array.getElem?_eq_none h] at hh;cases hh
theorem owns_below {w w':World} {base:Nat} {e:TypeId} {size:Nat} {v:Value} {n:Nat} {xs:List Value} (h:w.ownsRow base e size v n xs) {B:Nat} (hb:Below B w w') (hB:w.heap.size<=B):w'.ownsRow base e size v n xs:=by
 refine ⟨h.1,?_⟩
 have hl:=owns_lt h
 rcases h.2 with h2 | ⟨g,cap,cur,rfl,hg,hh,r⟩
 ·exact .inl h2
 ·have:=hl g (by simp [Value.ownBlock])
  exact .inr ⟨g,cap,cur,rfl,hg,by rw [hb.block g (by omega)];exact hh,r⟩
theorem owns_mono {w:World} {base base':Nat} {e:TypeId} {size:Nat} {v:Value} {n:Nat} {xs:List Value} (h:w.ownsRow base e size v n xs) (hB:base'<=base):w.ownsRow base' e size v n xs:=by
 refine ⟨h.1,?_⟩
 rcases h.2 with h2 | ⟨g,cap,cur,rfl,hg,r⟩
 ·exact .inl h2
 ·exact .inr ⟨g,cap,cur,rfl,by omega,r⟩
theorem IO.nil (w:World) (base:Nat):IO w base (.slice none 0 0) []:=⟨rfl,.inl ⟨rfl,rfl⟩⟩
theorem CO.nil (w:World) (base:Nat):CO w base (.slice none 0 0) []:=⟨rfl,.inl ⟨rfl,rfl⟩⟩
theorem IO.empty (w:World) {base:Nat} (h:base<=w.heap.size):IO (w.alloc (.cells #[] 3)) base (.slice (some ⟨w.heap.size,0,none⟩) 0 0) [] :=
 ⟨rfl,.inr ⟨w.heap.size,0,#[],rfl,h,heap_alloc_new _ _,Nat.le_refl _,by simp [maxLen],rfl,rfl⟩⟩
theorem CO.empty (w:World) {base:Nat} (h:base<=w.heap.size):CO (w.alloc (.cells #[] 63)) base (.slice (some ⟨w.heap.size,0,none⟩) 0 0) [] :=
 ⟨rfl,.inr ⟨w.heap.size,0,#[],rfl,h,heap_alloc_new _ _,Nat.le_refl _,by simp [maxLen],rfl,rfl⟩⟩
theorem IO.below {w w':World} {base B:Nat} {v:Value} {xs:List Int} (h:IO w base v xs) (hb:Below B w w') (hB:w.heap.size<=B):IO w' base v xs:=owns_below h hb hB
theorem CO.below {w w':World} {base B:Nat} {v:Value} {xs:List (Int×Int)} (h:CO w base v xs) (hb:Below B w w') (hB:w.heap.size<=B):CO w' base v xs:=owns_below h hb hB
theorem IO.mono {w:World} {base base':Nat} {v:Value} {xs:List Int} (h:IO w base v xs) (hB:base'<=base):IO w base' v xs:=owns_mono h hB
theorem CO.mono {w:World} {base base':Nat} {v:Value} {xs:List (Int×Int)} (h:CO w base v xs) (hB:base'<=base):CO w base' v xs:=owns_mono h hB
theorem IO.form {w:World} {base:Nat} {v:Value} {xs:List Int} (h:IO w base v xs):∃ A c,v=.slice A xs.length c∧xs.length<=c∧c<=maxLen∧Is w w.heap.size A xs:=by
 have hl:=owns_lt h
 rcases h.2 with ⟨rfl,h0⟩ | ⟨g,cap,cur,rfl,hg,hh,h1,h2,h3,h4⟩
 ·exact ⟨none,0,by rw [h0],by omega,by simp [maxLen],fun hp=>by omega⟩
 ·refine ⟨_,cap,rfl,h1,h2,fun hp=>⟨g,0,rfl,hl g (by simp [Value.ownBlock]),fun k hk=>?_⟩⟩
  rw [World.ownsRow.cellAt h (0+k) (by omega)]
  simp [Z,hk]
theorem CO.form {w:World} {base:Nat} {v:Value} {L:List (Int×Int)} (h:CO w base v L):∃ A c,v=.slice A L.length c∧L.length<=c∧c<=maxLen∧Cs w w.heap.size A L:=by
 have hl:=owns_lt h
 rcases h.2 with ⟨rfl,h0⟩ | ⟨g,cap,cur,rfl,hg,hh,h1,h2,h3,h4⟩
 ·exact ⟨none,0,by rw [h0],by omega,by simp [maxLen],fun hp=>by omega⟩
 ·refine ⟨_,cap,rfl,h1,h2,fun hp=>⟨g,0,rfl,hl g (by simp [Value.ownBlock]),fun k hk=>?_⟩⟩
  have:=flatC_at L k hk
  refine ⟨?_,?_⟩
  ·rw [Nat.zero_add,World.ownsRow.cellAt h (k * 2) (by omega)];exact this.1
  ·rw [Nat.zero_add,World.ownsRow.cellAt h (k * 2+1) (by omega)];exact this.2
theorem CO.cells {w:World} {base g n c:Nat} {M:List (Int×Int)} (h:CO w base (.slice (some ⟨g,0,none⟩) n c) M) :
  n=M.length∧(∀ k,k < n->w.cell? ⟨g,k * 2,none⟩=some (.int .i64 (X M k))∧w.cell? ⟨g,k * 2+1,none⟩=some (.int .i64 (Y M k)))∧∀ j,w.frozen? ⟨g,j,none⟩=false:=by
 have hn:n=M.length:=by
  rcases h.2 with ⟨h2,_⟩ | ⟨g',cap,cur,h2,_⟩
  ·cases h2
  ·injection h2
 subst hn
 refine ⟨rfl,fun k hk=>?_,fun j=>World.ownsRow.frozenAt h j⟩
 have:=flatC_at M k hk
 exact ⟨(World.ownsRow.cellAt h (k * 2) (by omega)).trans this.1,(World.ownsRow.cellAt h (k * 2+1) (by omega)).trans this.2⟩
theorem IO.cells {w:World} {base g n c:Nat} {M:List Int} (h:IO w base (.slice (some ⟨g,0,none⟩) n c) M) :
  n=M.length∧(∀ k,k < n->w.cell? ⟨g,k,none⟩=some (.int .i64 (Z M k)))∧∀ j,w.frozen? ⟨g,j,none⟩=false:=by
 have hn:n=M.length:=by
  rcases h.2 with ⟨h2,_⟩ | ⟨g',cap,cur,h2,_⟩
  ·cases h2
  ·injection h2
 subst hn
 refine ⟨rfl,fun k hk=>?_,fun j=>World.ownsRow.frozenAt h j⟩
 rw [World.ownsRow.cellAt h k (by omega)]
 simp [Z,hk]
theorem IO.alloc {w:World} {base:Nat} {v:Value} {xs:List Int} (h:IO w base v xs) (o:Obj):IO (w.alloc o) base v xs:=World.ownsRow.alloc h o
theorem IO.drew {w:World} {base:Nat} {v:Value} {xs:List Int} (h:IO w base v xs):IO w.drew base v xs:=h
theorem CO.alloc {w:World} {base:Nat} {v:Value} {xs:List (Int×Int)} (h:CO w base v xs) (o:Obj):CO (w.alloc o) base v xs:=World.ownsRow.alloc h o
theorem CO.drew {w:World} {base:Nat} {v:Value} {xs:List (Int×Int)} (h:CO w base v xs):CO w.drew base v xs:=h
section
variable {w:World}
theorem app_I {ops:Array Oper} {rest:List Oper} {o:Oper} {a:Act} {Q:Exit->Act->World->Prop} (hgd:o.guard=none) (s x:Operand)
  (ho:o.op=.call { callee:=.builtin .append,args:=#[s,x],argTypes:=#[57,57] })
  (base:Nat) (v:Value) (xs:List Int) (y:Int) (B:Nat) (hs:a.eval s=v) (hown:IO w base v xs) (hx:a.eval x=.slice (some ⟨B,0,none⟩) 1 1)
  (hB:w.heap[B]?=some (.cells #[.int .i64 y] 3 (0,0))) (hlen:xs.length<=1000000000000) (hbase:base<=w.heap.size)
  (h:∀ g cap w',IO w' base (.slice (some ⟨g,0,none⟩) (xs.length+1) cap) (xs++[y])->w.grownBy w' v.ownBlock->Below base w w'->wpList Tryd.prog ops Q rest (a.put o.dst (.slice (some ⟨g,0,none⟩) (xs.length+1) cap)) w') :
  wpList Tryd.prog ops Q (o::rest) a w:=by
 obtain ⟨i0,hi,hz0,hz1,hz2⟩:=info_parts infoI
 refine wpList_append_lies w hgd s x _ ho base 3 i0 _ 1 8 Tryd.underlying57 hi hz0 hz1 hz2 rfl (by decide) v xs.length _ hs hown
  ⟨B,0,none⟩ 1 1 [.int .i64 y] hx rfl (World.news_of_block (cs:=#[.int .i64 y]) hB) (by simp [Value.oneCell']) (by decide) (by simp only [maxLen];omega) (by omega) hbase _ rfl ?_
 intro g cap w' h1 h2 _ _
 exact h g cap w' (by simpa [IO] using h1) h2 ((Below.refl _ _).grown h2 hbase (owns_base hown))
theorem app_C {ops:Array Oper} {rest:List Oper} {o:Oper} {a:Act} {Q:Exit->Act->World->Prop} (hgd:o.guard=none) (s x:Operand)
  (ho:o.op=.call { callee:=.builtin .append,args:=#[s,x],argTypes:=#[51,51] })
  (base:Nat) (v:Value) (L:List (Int×Int)) (p q:Int) (B:Nat) (hs:a.eval s=v) (hown:CO w base v L) (hx:a.eval x=.slice (some ⟨B,0,none⟩) 1 1)
  (hB:w.heap[B]?=some (.cells #[.int .i64 p,.int .i64 q] 63 (0,0))) (hlen:L.length<=1000000000000) (hbase:base<=w.heap.size)
  (h:∀ g cap w',CO w' base (.slice (some ⟨g,0,none⟩) (L.length+1) cap) (L++[(p,q)])->w.grownBy w' v.ownBlock->Below base w w'->wpList Tryd.prog ops Q rest (a.put o.dst (.slice (some ⟨g,0,none⟩) (L.length+1) cap)) w') :
  wpList Tryd.prog ops Q (o::rest) a w:=by
 obtain ⟨i0,hi,hz0,hz1,hz2⟩:=info_parts infoC
 refine wpList_append_lies w hgd s x _ ho base 63 i0 _ 2 16 Tryd.underlying51 hi hz0 hz1 hz2 rfl (by decide) v L.length _ hs hown
  ⟨B,0,none⟩ 1 1 [.int .i64 p,.int .i64 q] hx rfl (World.news_of_block (cs:=#[.int .i64 p,.int .i64 q]) hB) (by simp [Value.oneCell']) (by decide) (by simp only [maxLen];omega) (by omega) hbase _ rfl ?_
 intro g cap w' h1 h2 _ _
 exact h g cap w' (by simpa [CO,flatC_snoc] using h1) h2 ((Below.refl _ _).grown h2 hbase (owns_base hown))
end
end Go.Proofs.YticccnkanihpnaaDoor
namespace Go.Proofs.YticccnkanihpnaaDoor
set_option linter.unusedVariables false
open Go.RowKit
structure WB (B:Nat) (w:World) where
 val:World
 below:Below B w val
instance (B:Nat) (w:World):Nonempty (WB B w):=⟨⟨w,Below.refl _ _⟩⟩
theorem wp_region_wb {P:Program} {id:Nat} {Q:Exit->Act->World->Prop} {a:Act} {w:World} {l:List Oper} (B:Nat) (hm:P.follows .mixedOrders=true) (hB:Region.lexB .any l.toArray=true)
  (h:wpQuiet P l.toArray (fun w'=>∃ s:WB B w,w'=s.val) (fun a'=>∀ w',(∃ s:WB B w,w'=s.val)->Q .normal a' w') l a):(Code.region id l.toArray true).wp P Q a w :=
 wp_region_quiet (C:=fun w'=>∃ s:WB B w,w'=s.val) hm hB ⟨⟨w.drew,(Below.refl _ _).drew⟩,rfl⟩ (by simpa using h)
theorem Calls.inB {P:Program} {f:FuncId} {args:Array Value} {B:Nat} {w:World} {s:WB B w} {v:Value} (hB:B<=w.heap.size)
  (h:Calls P f args s.val fun e w'=>e=.returned v∧Below s.val.heap.size s.val w'):Calls P f args s.val fun e w''=>e=.returned v∧∃ s':WB B w,w''=s'.val :=
 h.mono fun _ w' ⟨he,hb⟩=>⟨he,⟨w',s.below.trans (hb.mono (Nat.le_trans hB s.below.size))⟩,rfl⟩
theorem WB.cell {B:Nat} {w:World} {b o:Nat} {v:Value} (hb:b < B) (h:w.cell? ⟨b,o,none⟩=some v):∀ s:WB B w,s.val.cell? ⟨b,o,none⟩=some v :=
 fun s=>(s.below.cell (p:=⟨b,o,none⟩) hb).trans h
end Go.Proofs.YticccnkanihpnaaDoor
namespace Go.Proofs.YticccnkanihpnaaDoor
set_option linter.unusedVariables false
open Go.RowKit
def HeadQ (P:Program) (md:Region.Mode) (ops:Array Oper) (C:World->Prop) (n:Nat) (L:Array Bool->Act->Prop):Nat->Array Bool->Act->Prop
 | 0,listed,a=>L listed a
 | f+1,listed,a=>Region.ready md ops listed≠[]∧∀ i ∈ Region.ready md ops listed,i < n∧qOp P ops C i (HeadQ P md ops C n L f (listed.setIfInBounds i true)) a
section
variable {P:Program} {ops:Array Oper} {md:Region.Mode} {C:World->Prop} {n g:Nat} {L:Array Bool->Act->Prop}
theorem HeadQ.any {Q:Exit->Act->World->Prop} (hL:∀ listed a w,C w->L listed a->wpAny P md ops Q g listed a w) :
  ∀ (f:Nat) (listed:Array Bool) (a:Act) (w:World),C w->HeadQ P md ops C n L f listed a->wpAny P md ops Q (f+g) listed a w:=by
 intro f
 induction f with
 | zero=>intro listed a w hw h;rw [Nat.zero_add];exact hL _ _ _ hw h
 | succ f ih =>
  intro listed a w hw h
  have e:f+1+g=(f+g)+1:=by omega
  rw [e]
  exact ⟨fun h0=>absurd h0 h.1,fun i hi=>wpOp_of_qOp hw (fun a' w' hw' h'=>ih _ a' w' hw' h') (h.2 i hi).2⟩
end
theorem IO.grownR {w w':World} {base:Nat} {row:Option Nat} {v:Value} {L:List Int} (h:IO w base v L) (hg:w.grownBy w' row) (hr:∀ r,row=some r->r < base):IO w' base v L:=by
 refine ⟨h.1,?_⟩
 have hl:=owns_lt h
 rcases h.2 with h2 | ⟨g,cap,cur,rfl,hgb,hh,rest⟩
 ·exact .inl h2
 ·have:=hl g (by simp [Value.ownBlock])
  exact .inr ⟨g,cap,cur,rfl,hgb,by rw [hg.block g (by omega) (fun e=>by have:=hr _ e.symm;omega)];exact hh,rest⟩
theorem CO.grownR {w w':World} {base:Nat} {row:Option Nat} {v:Value} {L:List (Int×Int)} (h:CO w base v L) (hg:w.grownBy w' row) (hr:∀ r,row=some r->r < base):CO w' base v L:=by
 refine ⟨h.1,?_⟩
 have hl:=owns_lt h
 rcases h.2 with h2 | ⟨g,cap,cur,rfl,hgb,hh,rest⟩
 ·exact .inl h2
 ·have:=hl g (by simp [Value.ownBlock])
  exact .inr ⟨g,cap,cur,rfl,hgb,by rw [hg.block g (by omega) (fun e=>by have:=hr _ e.symm;omega)];exact hh,rest⟩
theorem IO.grownR' {w w':World} {base:Nat} {row:Option Nat} {v:Value} {L:List Int} (h:IO w base v L) (hg:w.grownBy w' row) (hr:∀ r,v.ownBlock=some r->row≠some r):IO w' base v L:=by
 refine ⟨h.1,?_⟩
 have hl:=owns_lt h
 rcases h.2 with h2 | ⟨g,cap,cur,rfl,hgb,hh,rest⟩
 ·exact .inl h2
 ·have:=hl g (by simp [Value.ownBlock])
  exact .inr ⟨g,cap,cur,rfl,hgb,by rw [hg.block g (by omega) (fun e=>hr g (by simp [Value.ownBlock]) (by rw [<- e]))];exact hh,rest⟩
def Sep (lo hi:Nat) (v:Value):Prop:=∀ r,v.ownBlock=some r->r=lo∨hi<=r
def Mid (lo hi:Nat) (w1 w:World):Prop:=∀ b,lo < b->b < hi->w.heap[b]?=w1.heap[b]?
theorem Mid.refl (lo hi:Nat) (w:World):Mid lo hi w w:=fun _ _ _=>rfl
theorem Mid.below {lo hi B:Nat} {w1 w w':World} (h:Mid lo hi w1 w) (hb:Below B w w') (hB:hi<=B):Mid lo hi w1 w':=fun b h1 h2=>(hb.block b (by omega)).trans (h b h1 h2)
theorem Mid.grown {lo hi:Nat} {w1 w w':World} {v:Value} (h:Mid lo hi w1 w) (hs:Sep lo hi v) (hg:w.grownBy w' v.ownBlock) (hB:hi<=w.heap.size):Mid lo hi w1 w':=fun b h1 h2 =>
 (hg.block b (by omega) (fun e=>by have:=hs b e.symm;omega)).trans (h b h1 h2)
theorem Mid.cell {lo hi:Nat} {w1 w:World} (h:Mid lo hi w1 w) {b o:Nat} (h1:lo < b) (h2:b < hi):w.cell? ⟨b,o,none⟩=w1.cell? ⟨b,o,none⟩:=World.cell?_of_block (h b h1 h2)
theorem Sep.nil (lo hi n c:Nat):Sep lo hi (.slice none n c):=fun r e=>by simp [Value.ownBlock] at e
section
variable {w:World}
end
end Go.Proofs.YticccnkanihpnaaDoor
namespace Go.Proofs.YticccnkanihpnaaDoor
set_option linter.unusedVariables false
open Go.RowKit
section
variable {w:World}
end
end Go.Proofs.YticccnkanihpnaaDoor
namespace Go.Proofs.YticccnkanihpnaaDoor
set_option linter.unusedVariables false
open Go.RowKit
structure IOO (w:World) (base:Nat) (v:Value) (xss:List (List Int)) (vs:List Value):Prop where
 row:w.ownsRow base 57 1 v xss.length vs
 inner:∀ k,k < xss.length->IO w base (vs.getD k undef) (xss.getD k [])
 apart:∀ k,k < xss.length->∀ r,(vs.getD k undef).ownBlock=some r->v.ownBlock≠some r
 diff:∀ i j,i < xss.length->j < xss.length->i≠j->∀ r,(vs.getD i undef).ownBlock=some r->(vs.getD j undef).ownBlock≠some r
theorem IOO.len {w:World} {base:Nat} {v:Value} {xss:List (List Int)} {vs:List Value} (h:IOO w base v xss vs):vs.length=xss.length:=by
 have:=h.row.1
 omega
theorem IOO.nil (w:World) (base:Nat):IOO w base (.slice none 0 0) [] []:=⟨⟨rfl,.inl ⟨rfl,rfl⟩⟩,fun k h=>by simp at h,fun k h=>by simp at h,fun i j h=>by simp at h⟩
theorem IOO.empty (w:World) {base:Nat} (h:base<=w.heap.size):IOO (w.alloc (.cells #[] 57)) base (.slice (some ⟨w.heap.size,0,none⟩) 0 0) [] [] :=
 ⟨⟨rfl,.inr ⟨w.heap.size,0,#[],rfl,h,heap_alloc_new _ _,Nat.le_refl _,by simp [maxLen],rfl,rfl⟩⟩,fun k h=>by simp at h,fun k h=>by simp at h,fun i j h=>by simp at h⟩
theorem IOO.below {w w':World} {base B:Nat} {v:Value} {xss:List (List Int)} {vs:List Value} (h:IOO w base v xss vs) (hb:Below B w w') (hB:w.heap.size<=B):IOO w' base v xss vs :=
 ⟨owns_below h.row hb hB,fun k hk=>(h.inner k hk).below hb hB,h.apart,h.diff⟩
theorem IOO.mono {w:World} {base base':Nat} {v:Value} {xss:List (List Int)} {vs:List Value} (h:IOO w base v xss vs) (hB:base'<=base):IOO w base' v xss vs :=
 ⟨owns_mono h.row hB,fun k hk=>(h.inner k hk).mono hB,h.apart,h.diff⟩
theorem IOO.form {w:World} {base:Nat} {v:Value} {xss:List (List Int)} {vs:List Value} (h:IOO w base v xss vs) :
  ∃ A c,v=.slice A xss.length c∧xss.length<=c∧c<=maxLen∧(0 < xss.length->∃ g,A=some ⟨g,0,none⟩∧base<=g∧g < w.heap.size∧(∀ k,k < xss.length->w.cell? ⟨g,k,none⟩=some (vs.getD k undef))∧∀ j,w.frozen? ⟨g,j,none⟩=false):=by
 have hl:=owns_lt h.row
 have hn:=h.len
 rcases h.row.2 with ⟨rfl,h0⟩ | ⟨g,cap,cur,rfl,hg,hh,h1,h2,h3,h4⟩
 ·exact ⟨none,0,by rw [h0],by omega,by simp [maxLen],fun hp=>by omega⟩
 ·refine ⟨_,cap,rfl,h1,h2,fun _=>⟨g,rfl,hg,hl g (by simp [Value.ownBlock]),fun k hk=>?_,fun j=>World.ownsRow.frozenAt h.row j⟩⟩
  rw [World.ownsRow.cellAt h.row k (by omega)]
  simp [List.getD,List.getElem?_eq_getElem (show k < vs.length by omega)]
theorem IOO.cells {w:World} {base g n c:Nat} {xss:List (List Int)} {vs:List Value} (h:IOO w base (.slice (some ⟨g,0,none⟩) n c) xss vs) :
  n=xss.length∧(∀ k,k < n->w.cell? ⟨g,k,none⟩=some (vs.getD k undef))∧∀ j,w.frozen? ⟨g,j,none⟩=false:=by
 have hn:n=xss.length:=by
  rcases h.row.2 with ⟨h2,_⟩ | ⟨g',cap,cur,h2,_⟩
  ·cases h2
  ·injection h2
 subst hn
 refine ⟨rfl,fun k hk=>?_,fun j=>World.ownsRow.frozenAt h.row j⟩
 have:=h.len
 rw [World.ownsRow.cellAt h.row k (by omega)]
 simp [List.getD,List.getElem?_eq_getElem (show k < vs.length by omega)]
end Go.Proofs.YticccnkanihpnaaDoor
namespace Go.Proofs.YticccnkanihpnaaDoor
set_option linter.unusedVariables false
open Go.RowKit
def Bs (w:World) (B:Nat) (A:Option Addr) (n:Nat):Prop :=
 0 < n->∃ b off,A=some ⟨b,off,none⟩∧b < B∧∀ k,k < n->∃ y:Int,w.cell? ⟨b,off+k,none⟩=some (.int .u8 y)∧0<=y∧y<=255
theorem Bs.keep {w w':World} {B:Nat} {A:Option Addr} {n:Nat} (h:Bs w B A n) (hb:∀ k,k < B->w'.heap[k]?=w.heap[k]?):Bs w' B A n:=by
 intro hn
 obtain ⟨b,off,rfl,hlt,hc⟩:=h hn
 refine ⟨b,off,rfl,hlt,fun k hk=>?_⟩
 obtain ⟨y,h1,h2⟩:=hc k hk
 exact ⟨y,(World.cell?_of_block (w:=w) (hb b hlt)).trans h1,h2⟩
def Rd (w:World) (base r p:Nat):Prop :=
 base<=r∧r < w.heap.size∧∃ A n c,n<=2000∧w.heap[r]?=some (.cells #[.slice A n c,.int .i64 p] 89 (0,0))∧Bs w base A n
theorem grown_set (w:World) (r o:Nat) (u:Value):w.grownBy (w.setCell ⟨r,o,none⟩ u) (some r) :=
 ⟨rfl,rfl,rfl,by simp [World.setCell],fun k _ hne=>Below.heap_setCell _ _ _ _ (fun e=>hne (by rw [e]))⟩
theorem grown_drewN {w w':World} {row:Option Nat} (h:w.grownBy w' row) (n:Nat):w.grownBy (w'.drewN n) row:=⟨h.os,h.tape,h.output,h.size,h.block⟩
theorem below_grown {w w':World} {base r:Nat} (h:w.grownBy w' (some r)) (hr:base<=r) (hw:base<=w.heap.size):Below base w w' :=
 (Below.refl _ _).grown h hw (fun k e=>by cases e;exact hr)
theorem Rd.grown {w w':World} {base r p:Nat} (h:Rd w base r p) (hg:Below w.heap.size w w'):Rd w' base r p:=by
 obtain ⟨h1,h2,A,n,c,hn,hh,hb⟩:=h
 exact ⟨h1,Nat.lt_of_lt_of_le h2 hg.size,A,n,c,hn,(hg.block r h2).trans hh,hb.keep fun k hk=>hg.block k (by omega)⟩
theorem xor_i64 (a b:Nat) (ha:a < 4611686018427387904) (hb:b < 4611686018427387904):bits .xor .i64 (a:Int) (b:Int)=((a ^^^ b:Nat):Int):=by
 have hx:a ^^^ b < 2 ^ 62:=Nat.xor_lt_two_pow (by omega) (by omega)
 show IntKind.i64.wrap ((BitVec.ofInt 64 (a:Int) ^^^ BitVec.ofInt 64 (b:Int)).toNat:Int)=_
 have e1:(BitVec.ofInt 64 (a:Int)).toNat=a:=by simp;omega
 have e2:(BitVec.ofInt 64 (b:Int)).toNat=b:=by simp;omega
 rw [BitVec.toNat_xor,e1,e2]
 exact IntWalk.i64_in _ (by omega)
theorem xor_nn (x y:Int) (h0:0<=x) (h1:x<=1000000000000) (h2:0<=y) (h3:y<=1000000000000):∃ a:Nat,bits .xor .i64 x y=a∧a < 4611686018427387904:=by
 obtain ⟨a,rfl⟩:=Int.eq_ofNat_of_zero_le h0
 obtain ⟨b,rfl⟩:=Int.eq_ofNat_of_zero_le h2
 have hx:a ^^^ b < 2 ^ 62:=Nat.xor_lt_two_pow (by omega) (by omega)
 exact ⟨a ^^^ b,xor_i64 a b (by omega) (by omega),by omega⟩
theorem Rd.set {w:World} {base r p:Nat} {A:Option Addr} {n c:Nat} (h1:base<=r) (h2:r < w.heap.size) (hn:n<=2000) (hh:w.heap[r]?=some (.cells #[.slice A n c,.int .i64 p] 89 (0,0)))
  (hb:Bs w base A n) (nq:Nat):w.grownBy ((w.setCell ⟨r,1,none⟩ (.int .i64 (p+1))).drewN nq) (some r)∧Rd ((w.setCell ⟨r,1,none⟩ (.int .i64 (p+1))).drewN nq) base r (p+1):=by
 refine ⟨grown_drewN (grown_set _ _ _ _) nq,h1,?_,A,n,c,hn,?_,hb.keep fun k hk=>Below.heap_setCell _ _ _ _ (by simp;omega)⟩
 ·show r < (w.setCell _ _).heap.size
  simp [World.setCell];exact h2
 ·show (w.setCell _ _).heap[r]?=_
  simp [World.setCell,Array.getElem?_modify,hh]
set_option maxHeartbeats 4000000 in
theorem c_pick (base r p n:Nat) (w:World) (h:Rd w base r p) (hp:p<=1000000000) (hn1:1<=n) (hn2:n<=1000) :
  Calls Tryd.prog 44 #[.pointer (some ⟨r,0,none⟩),.int .i64 n] w fun e w'=>∃ x:Nat,x < n∧e=.returned (.int .i64 x)∧w.grownBy w' (some r)∧Rd w' base r (p+1):=by
 obtain ⟨h1,h2,A,m,c,hm,hh,hb⟩:=h
 have c0:w.cell? ⟨r,0,none⟩=some (.slice A m c):=by simp [cell_of_row w r 0 _ _ _ hh]
 have c1:w.cell? ⟨r,1,none⟩=some (.int .i64 p):=by simp [cell_of_row w r 1 _ _ _ hh]
 have f1:w.frozen? ⟨r,1,none⟩=false:=by simp [World.frozen?,hh]
 have HS:=Lib.hid (fun nq=>Rd.set h1 h2 hm hh hb nq)
 clear hh
 have hnn:decide ((n:Int) < 1)=false:=by simp;omega
 have hnb:decide (n < 1)=false:=by simp;omega
 by_cases hm0:m=0
 ·subst hm0
  have hmb:((0:Int) == 0)=true:=rfl
  go_enter Tryd.func44,Tryd.ntmps44
  go_wp2
  go_ret
  exact ⟨0,by omega,rfl,HS.out 0⟩
 ·obtain ⟨b,off,rfl,hlt,hc⟩:=hb (by omega)
  have hmb:((m:Int) == 0)=false:=by simp;omega
  have hbr:b≠r:=by omega
  by_cases hk:p < m
  ·obtain ⟨y,hy,hy1,hy2⟩:=hc p hk
   have hr1:0<=y % (n:Int):=Int.emod_nonneg _ (by omega)
   have hr2:y % (n:Int) < n:=Int.emod_lt_of_pos _ (by omega)
   clear hc
   go_enter Tryd.func44,Tryd.ntmps44
   go_wp2
   go_ret
   refine ⟨(y % (n:Int)).toNat,by omega,?_,HS.out 0⟩
   rw [Int.toNat_of_nonneg hr1];rfl
  ·obtain ⟨q1,hq1⟩:∃ q,q=p % m:=⟨_,rfl⟩
   obtain ⟨q2,hq2⟩:∃ q,q=(p * 7+3) % m:=⟨_,rfl⟩
   obtain ⟨d,hd⟩:∃ d,d=p / m:=⟨_,rfl⟩
   have hq1m:q1 < m:=by rw [hq1];exact Nat.mod_lt _ (by omega)
   have hq2m:q2 < m:=by rw [hq2];exact Nat.mod_lt _ (by omega)
   have hdp:d<=p:=by rw [hd];exact Nat.div_le_self _ _
   obtain ⟨y,hy,hy1,hy2⟩:=hc q1 hq1m
   obtain ⟨z,hz,hz1,hz2⟩:=hc q2 hq2m
   have t1:Int.tmod (p:Int) (m:Int)=(q1:Int):=by rw [hq1];rfl
   have t2:Int.tmod ((p:Int) * 7+3) (m:Int)=(q2:Int):=by rw [hq2];rfl
   have t3:Int.tdiv (p:Int) (m:Int)=(d:Int):=by rw [hd];rfl
   clear hq1 hq2 hd
   obtain ⟨a,ha,ha2⟩:=xor_nn (y * 131+z * 1117+(p:Int) * 29+(d:Int) * 53) ((y * 131+z * 1117+(p:Int) * 29+(d:Int) * 53) / 64) (by omega) (by omega) (by omega) (by omega)
   have T1:=Lib.hid t1;have T2:=Lib.hid t2;have T3:=Lib.hid t3;have HA:=Lib.hid ha
   clear hc t1 t2 t3 ha
   go_enter Tryd.func44,Tryd.ntmps44
   go_wp2_with fail
   have hs0:0<=y * 131+z * 1117+(p:Int) * 29+(d:Int) * 53:=by omega
   have hs1:y * 131+z * 1117+(p:Int) * 29+(d:Int) * 53<=1000000000000:=by omega
   have e1:IntKind.i64.wrap ((p:Int) * 7)=(p:Int) * 7:=IntWalk.i64_in _ (by omega)
   have e2:IntKind.i64.wrap ((p:Int) * 7+3)=(p:Int) * 7+3:=IntWalk.i64_in _ (by omega)
   have e3:IntKind.i64.wrap (y * 131)=y * 131:=IntWalk.i64_in _ (by omega)
   have e4:IntKind.i64.wrap (z * 1117)=z * 1117:=IntWalk.i64_in _ (by omega)
   have e5:IntKind.i64.wrap (y * 131+z * 1117)=y * 131+z * 1117:=IntWalk.i64_in _ (by omega)
   have e6:IntKind.i64.wrap ((p:Int) * 29)=(p:Int) * 29:=IntWalk.i64_in _ (by omega)
   have e7:IntKind.i64.wrap (y * 131+z * 1117+(p:Int) * 29)=y * 131+z * 1117+(p:Int) * 29:=IntWalk.i64_in _ (by omega)
   have e8:IntKind.i64.wrap ((d:Int) * 53)=(d:Int) * 53:=IntWalk.i64_in _ (by omega)
   have e9:IntKind.i64.wrap (y * 131+z * 1117+(p:Int) * 29+(d:Int) * 53)=y * 131+z * 1117+(p:Int) * 29+(d:Int) * 53:=IntWalk.i64_in _ (by omega)
   have t1:=T1.out;have t2:=T2.out;have t3:=T3.out
   go_quiet (fail)
   clear e1 e2 e3 e4 e5 e6 e7 e8 e9 t1 t2 t3
   have ha:=HA.out
   go_wp2
   go_ret
   have hr1:0<=(a:Int) % (n:Int):=Int.emod_nonneg _ (by omega)
   have hr2:(a:Int) % (n:Int) < n:=Int.emod_lt_of_pos _ (by omega)
   refine ⟨((a:Int) % (n:Int)).toNat,by omega,?_,HS.out _⟩
   rw [Int.toNat_of_nonneg hr1];rfl
end Go.Proofs.YticccnkanihpnaaDoor
namespace Go.Proofs.YticccnkanihpnaaDoor
set_option linter.unusedVariables false
open Go.RowKit
theorem var_same {P:Program} {w w':World} {name:String} {g:Nat} (hg:P.globalNamed name=some g) (h:w'.heap[g]?=w.heap[g]?):w'.var? P name=w.var? P name:=by
 simp only [World.var?,hg,Option.bind_some,h]
def LV1 (w : World) (B : Nat) : Prop := 1 < B ∧ Lib.TabIs Tryd.prog w "internal/strconv.uint64pow10" .u64 Lib.pow10Tab
theorem LV1.below {w w':World} {B:Nat} (h:LV1 w B) (hb:Below B w w'):LV1 w' B:=⟨h.1,by have:=h.2;unfold Lib.TabIs at this ⊢;rw [var_same (by kernel_rfl) (hb.block _ h.1)];exact this⟩
theorem LV1.more {w:World} {B B':Nat} (h:LV1 w B) (hB:B<=B'):LV1 w B':=⟨Nat.lt_of_lt_of_le h.1 hB,h.2⟩
def LV2 (w : World) (B : Nat) : Prop := (4 < B ∧ ∃ tp p, w.var? Tryd.prog "strconv.ErrSyntax" = some #[.iface tp p]) ∧ 5 < B ∧ ∃ tp p, w.var? Tryd.prog "strconv.ErrRange" = some #[.iface tp p]
theorem LV2.below {w w':World} {B:Nat} (h:LV2 w B) (hb:Below B w w'):LV2 w' B :=
 ⟨⟨h.1.1,by rw [var_same (by kernel_rfl) (hb.block _ h.1.1)];exact h.1.2⟩,h.2.1,by rw [var_same (by kernel_rfl) (hb.block _ h.2.1)];exact h.2.2⟩
theorem LV2.more {w:World} {B B':Nat} (h:LV2 w B) (hB:B<=B'):LV2 w B':=⟨⟨Nat.lt_of_lt_of_le h.1.1 hB,h.1.2⟩,Nat.lt_of_lt_of_le h.2.1 hB,h.2.2⟩
def LV3 (w:World) (B:Nat):Prop:=0 < B∧∃ m,w.cell? ⟨0,0,none⟩=some (.int .i64 m)
theorem LV3.below {w w':World} {B:Nat} (h:LV3 w B) (hb:Below B w w'):LV3 w' B:=⟨h.1,by rw [hb.cell (p:=⟨0,0,none⟩) h.1];exact h.2⟩
theorem LV3.more {w:World} {B B':Nat} (h:LV3 w B) (hB:B<=B'):LV3 w B':=⟨Nat.lt_of_lt_of_le h.1 hB,h.2⟩
def LV (w:World) (B:Nat):Prop:=LV1 w B∧LV2 w B∧LV3 w B
theorem LV.below {w w':World} {B:Nat} (h:LV w B) (hb:Below B w w'):LV w' B:=⟨h.1.below hb,h.2.1.below hb,h.2.2.below hb⟩
theorem LV.more {w:World} {B B':Nat} (h:LV w B) (hB:B<=B'):LV w B':=⟨h.1.more hB,h.2.1.more hB,h.2.2.more hB⟩
theorem LV.at {w w':World} (h:LV w w.heap.size) (hb:Below w.heap.size w w'):LV w' w'.heap.size:=(h.below hb).more hb.size
end Go.Proofs.YticccnkanihpnaaDoor
namespace Go.Proofs.YticccnkanihpnaaDoor
set_option linter.unusedVariables false
open Go.RowKit
theorem var_lt {P:Program} {w:World} {name:String} {g:Nat} {cs:Array Value} (hg:P.globalNamed name=some g) (h:w.var? P name=some cs):g < w.heap.size:=by
 simp only [World.var?,hg,Option.bind_some] at h
 cases hh:w.heap[g]? with
 | none=>rw [hh] at h;cases h
 | some o=>exact (Array.getElem?_eq_some_iff.1 hh).1
theorem lv1_of {rest : List (String × DataW Unit)} {W : World} (h : laidMet Tryd.prog (("internal/strconv.uint64pow10", Rows.laid_internal_strconv_uint64pow10) :: rest) W) : LV1 W W.heap.size := by
 have e:(Rows.laid_internal_strconv_uint64pow10:DataW Unit)=Lib.tabData .u64 Lib.pow10Tab:=by kernel_rfl
 rw [e] at h
 have hg : Tryd.prog.globalNamed "internal/strconv.uint64pow10" = some 1 := by kernel_rfl
 have hT : Lib.TabIs Tryd.prog W "internal/strconv.uint64pow10" .u64 Lib.pow10Tab :=
  Lib.tabIs_of_head (t:=115) (e:=104) (n:=20) hg (by kernel_rfl) (by kernel_rfl) (by kernel_rfl) (by kernel_rfl) (by kernel_rfl) h
 exact ⟨var_lt hg hT,hT⟩
theorem rowErr (u : TypeId) (h : Tryd.prog.typeName? 3 u = some "*errors.errorString") : u = 141 := by
 have star : "*" ++ "errors.errorString" = "*errors.errorString" := by decide
 exact typeName_ptr_named (nm := "errors.errorString") (by rw [star]; kernel_rfl) (by kernel_rfl) (by decide) u (by rw [star]; exact h)
theorem lv2_of {r1 r2 : List (String × DataW Unit)} {W : World} (h1 : laidMet Tryd.prog (("strconv.ErrSyntax", Rows.laid_strconv_ErrSyntax) :: r1) W) (h2 : laidMet Tryd.prog (("strconv.ErrRange", Rows.laid_strconv_ErrRange) :: r2) W) : LV2 W W.heap.size := by
 have g1 : Tryd.prog.globalNamed "strconv.ErrSyntax" = some 4 := by kernel_rfl
 have g2 : Tryd.prog.globalNamed "strconv.ErrRange" = some 5 := by kernel_rfl
 obtain ⟨a1,s1,v1,-,-,-⟩:=laid_sentinel (ti:=81) (te:=143) (ts:=9) h1 g1 (by kernel_rfl) Tryd.underlying81 rowErr Tryd.underlying141 Tryd.underlying143 rfl rfl Tryd.underlying9 (by kernel_rfl) (by kernel_rfl)
 obtain ⟨a2,s2,v2,-,-,-⟩:=laid_sentinel (ti:=81) (te:=143) (ts:=9) h2 g2 (by kernel_rfl) Tryd.underlying81 rowErr Tryd.underlying141 Tryd.underlying143 rfl rfl Tryd.underlying9 (by kernel_rfl) (by kernel_rfl)
 exact ⟨⟨var_lt g1 v1,_,_,v1⟩,var_lt g2 v2,_,_,v2⟩
theorem lv3_of {W:World} (h:W.ShapedOpen Tryd.prog):LV3 W W.heap.size:=by
 obtain ⟨m,hm⟩:=cell_of_shapedOpen_int (g:=0) (zero:=#[.int .i64 0]) (t:=3) h (of_decide_eq_true (by kernel_rfl)) (by kernel_rfl) rfl (by kernel_rfl) (by kernel_rfl) Tryd.underlying3
 exact ⟨World.block_lt_of_cell? W ⟨_,0,none⟩ hm,m,hm⟩
end Go.Proofs.YticccnkanihpnaaDoor
namespace Go.Proofs.YticccnkanihpnaaDoor
set_option linter.unusedVariables false
open Go.RowKit
set_option maxHeartbeats 400000 in
theorem c_within (a b c:Int) (w:World) :
  Calls Tryd.prog 35 #[.int .i64 a,.int .i64 b,.int .i64 c] w fun e w'=>e=.returned (.bool (decide (b<=a∧a<=c)))∧w=w':=by
 by_cases h1:b<=a
 ·by_cases h2:a<=c
  all_goals
   go_enter Tryd.func35,Tryd.ntmps35
   go_wp2
   go_ret
   exact ⟨by simp [h1,h2],rfl⟩
 ·go_enter Tryd.func35,Tryd.ntmps35
  go_wp2
  go_ret
  exact ⟨by simp;omega,rfl⟩
set_option maxHeartbeats 400000 in
theorem c_ok (x y:Int) (w:World) :
  Calls Tryd.prog 57 #[.agg #[.int .i64 x,.int .i64 y]] w fun e w'=>e=.returned (.bool (cok x y))∧Below w.heap.size w w':=by
 by_cases h1:0<=x∧x<=60
 ·have h1':decide (0<=x∧x<=60)=true:=by simpa using h1
  go_enter Tryd.func57,Tryd.ntmps57
  go_wp2_with (go_at_call 35;refine (c_within _ _ _ _).mono ?_;rintro e w' ⟨rfl,rfl⟩)
  go_ret
  exact ⟨by simp [cok,h1],(Below.refl _ _).alloc (Nat.le_refl _) _⟩
 ·have h1':decide (0<=x∧x<=60)=false:=by simpa using h1
  go_enter Tryd.func57,Tryd.ntmps57
  go_wp2_with (go_at_call 35;refine (c_within _ _ _ _).mono ?_;rintro e w' ⟨rfl,rfl⟩)
  go_ret
  exact ⟨by simp [cok,h1],(Below.refl _ _).alloc (Nat.le_refl _) _⟩
set_option maxHeartbeats 1000000 in
theorem c_iCustomersOk (L:List (Int×Int)) (A:Option Addr) (c:Nat) (w:World) (hA:Cs w w.heap.size A L) (hn:L.length<=140737488351232) :
  Calls Tryd.prog 39 #[.slice A L.length c] w fun e w'=>e=.returned (.bool (cOk L))∧Below w.heap.size w w':=by
 by_cases h8:L.length<=8
 ·go_enter Tryd.func39,Tryd.ntmps39
  go_wp2
  go_loopw [3,11] (fun ah i wr=>∃ k:Nat,k<=L.length∧i=.int .i64 k∧ah=.int .i64 (prevOf L k)∧Hid (okTo L k=true)∧Below w.heap.size w wr)
   (fun _ i _=>L.length - (intOf i).toNat)
  case atStart=>exact ⟨0,Nat.zero_le _,rfl,rfl,rfl,Below.refl _ _⟩
  case round =>
   obtain ⟨k,hk,rfl,rfl,hok,hb⟩:=hrel
   by_cases hlt:k < L.length
   ·obtain ⟨b,off,rfl,hlb,hc⟩:=hA (by omega)
    have c1:=(hb.cell (p:=⟨b,off+k * 2,none⟩) hlb).trans (hc k hlt).1
    have c2:=(hb.cell (p:=⟨b,off+k * 2+1,none⟩) hlb).trans (hc k hlt).2
    clear hc
    have hsz:=hb.size
    by_cases hck:cok (X L k) (Y L k)=true
    ·have Hck:=Lib.hid hck;clear hck
     by_cases hp:prevOf L k<=X L k
     all_goals
      go_wp2_with fail
      refine (c_ok _ _ _).mono ?_
      rintro e w1 ⟨rfl,hb1⟩
      obtain ⟨hc1,hf1⟩:=bcell hb1
      rw [Hck.out]
      go_wp2_with fail
     ·go_roundw
      case rel =>
       refine ⟨k+1,by omega,by go_num,rfl,?_,?_⟩
       ·show okTo L (k+1)=true
        simp [okTo,hok.out,okAt_of Hck.out hp]
       ·refine Below.trans ?_ (hb1.mono ?_)
        all_goals (repeat (first | exact hb | exact Below.refl _ _ | (with_reducible refine Below.drew ?_) | (with_reducible refine Below.drewN ?_ _) | (with_reducible refine Below.alloc ?_ ?_ _) | (with_reducible refine Below.setCell ?_ ?_ _) | (show _<=_;focus (first | omega | (simp;done) | (simp;omega)))))
      case measure=>simp [intOf];omega
     ·go_ret
      refine ⟨by simp [cOk,okTo_no hlt (okAt_no2 (by omega))],?_⟩
      refine Below.trans ?_ (hb1.mono ?_)
      all_goals (repeat (first | exact hb | exact Below.refl _ _ | (with_reducible refine Below.drew ?_) | (with_reducible refine Below.drewN ?_ _) | (with_reducible refine Below.alloc ?_ ?_ _) | (with_reducible refine Below.setCell ?_ ?_ _) | (show _<=_;focus (first | omega | (simp;done) | (simp;omega)))))
    ·have hck':cok (X L k) (Y L k)=false:=by simpa using hck
     have Hck:=Lib.hid hck';clear hck hck'
     go_wp2_with fail
     refine (c_ok _ _ _).mono ?_
     rintro e w1 ⟨rfl,hb1⟩
     rw [Hck.out]
     go_wp2_with fail
     go_ret
     refine ⟨by simp [cOk,okTo_no hlt (okAt_no1 Hck.out)],?_⟩
     refine Below.trans ?_ (hb1.mono ?_)
     all_goals (repeat (first | exact hb | exact Below.refl _ _ | (with_reducible refine Below.drew ?_) | (with_reducible refine Below.drewN ?_ _) | (with_reducible refine Below.alloc ?_ ?_ _) | (with_reducible refine Below.setCell ?_ ?_ _) | (show _<=_;focus (first | omega | (simp;done) | (simp;omega)))))
   ·go_wp2_with fail
    go_ret
    exact ⟨by rw [show k=L.length by omega] at hok;simp [cOk,h8,hok.out],hb⟩
 ·go_enter Tryd.func39,Tryd.ntmps39
  go_wp2
  go_ret
  exact ⟨by simp [cOk,h8],Below.refl _ _⟩
end Go.Proofs.YticccnkanihpnaaDoor
namespace Go.Proofs.YticccnkanihpnaaDoor
set_option linter.unusedVariables false
open Go.RowKit
set_option maxHeartbeats 400000 in
theorem c_l1In (a b c:Int) (w:World) :
  Calls Tryd.prog 37 #[.int .i64 a,.int .i64 b,.int .i64 c] w fun e w'=>e=.returned (.bool (decide (b<=a∧a<=c)))∧w'=w:=by
 by_cases h1:b<=a
 ·by_cases h2:a<=c
  all_goals
   go_enter Tryd.func37,Tryd.ntmps37
   go_wp2
   go_ret
   exact ⟨by simp [h1,h2],rfl⟩
 ·go_enter Tryd.func37,Tryd.ntmps37
  go_wp2
  go_ret
  exact ⟨by simp;omega,rfl⟩
end Go.Proofs.YticccnkanihpnaaDoor
namespace Go.Proofs.YticccnkanihpnaaDoor
set_option linter.unusedVariables false
open Go.RowKit
theorem Rd.keepB {w w':World} {base r p B:Nat} (h:Rd w base r p) (hg:Below B w w') (hr:r < B) (hb:base<=B):Rd w' base r p:=by
 obtain ⟨h1,h2,A,n,c,hn,hh,hb'⟩:=h
 exact ⟨h1,Nat.lt_of_lt_of_le h2 hg.size,A,n,c,hn,(hg.block r hr).trans hh,hb'.keep fun k hk=>hg.block k (by omega)⟩
theorem grown_thenB {w w1 w2:World} {r:Nat} (h:w.grownBy w1 (some r)) (hb:Below w.heap.size w1 w2):w.grownBy w2 (some r) :=
 ⟨hb.os.trans h.os,hb.tape.trans h.tape,hb.output.trans h.output,Nat.le_trans h.size hb.size,fun k hk hne=>(hb.block k hk).trans (h.block k hk hne)⟩
theorem CO.grown {w w':World} {base r:Nat} {v:Value} {L:List (Int×Int)} (h:CO w base v L) (hg:w.grownBy w' (some r)) (hr:r < base):CO w' base v L:=by
 refine ⟨h.1,?_⟩
 have hl:=owns_lt h
 rcases h.2 with h2 | ⟨g,cap,cur,rfl,hgb,hh,rest⟩
 ·exact .inl h2
 ·have:=hl g (by simp [Value.ownBlock])
  exact .inr ⟨g,cap,cur,rfl,hgb,by rw [hg.block g (by omega) (by simp;omega)];exact hh,rest⟩
def bdL (L:List (Int×Int)):Prop:=∀ c ∈ L,-1<=c.1∧c.1<=61∧0<=c.2∧c.2<=9
theorem bdL_snoc {L:List (Int×Int)} {c:Int×Int} (h:bdL L) (hc:-1<=c.1∧c.1<=61∧0<=c.2∧c.2<=9):bdL (L++[c]):=by
 intro d hd
 rcases List.mem_append.1 hd with h1 | h1
 ·exact h d h1
 ·simp at h1;subst h1;exact hc
theorem c_pickI (base r p:Nat) (n:Int) (w:World) (h:Rd w base r p) (hp:p<=1000000000) (hn1:1<=n) (hn2:n<=1000) :
  Calls Tryd.prog 44 #[.pointer (some ⟨r,0,none⟩),.int .i64 n] w fun e w'=>∃ x:Nat,(x:Int) < n∧e=.returned (.int .i64 x)∧w.grownBy w' (some r)∧Rd w' base r (p+1):=by
 obtain ⟨m,rfl⟩:=Int.eq_ofNat_of_zero_le (show 0<=n by omega)
 exact (c_pick base r p m w h hp (by omega) (by omega)).mono fun _ _ ⟨x,hx,he⟩=>⟨x,by omega,he⟩
set_option maxHeartbeats 1000000 in
theorem c_odd (base r p n:Nat) (w:World) (h:Rd w base r p) (hp:p<=1000000000) (hn1:1<=n) (hn2:n<=1000) :
  Calls Tryd.prog 49 #[.pointer (some ⟨r,0,none⟩),.int .i64 n] w fun e w'=>∃ b:Bool,e=.returned (.bool b)∧w.grownBy w' (some r)∧Rd w' base r (p+1):=by
 have hn3:(0:Int) < (n:Int):=by omega
 go_enter Tryd.func49,Tryd.ntmps49
 go_wp2_with fail
 refine (c_pick base r p n _ h hp hn1 hn2).mono ?_
 rintro e w1 ⟨x,hx,rfl,hg,hr⟩
 by_cases hb:((x:Int) == (n:Int) - 1)=true
 ·go_wp2_with fail
  go_ret
  exact ⟨_,rfl,hg,hr⟩
 ·have hb':((x:Int) == (n:Int) - 1)=false:=by simpa using hb
  go_wp2_with fail
  go_ret
  exact ⟨_,rfl,hg,hr⟩
set_option maxHeartbeats 1000000 in
theorem c_l20Open (A:Option Addr) (n c:Nat) (w:World) (h:Bs w w.heap.size A n) (hn:n<=1048576) (hc:n<=c) :
  Calls Tryd.prog 30 #[.slice A n c] w fun e w'=>∃ r,e=.returned (.pointer (some ⟨r,0,none⟩))∧Rd w' w.heap.size r 0∧Below w.heap.size w w':=by
 by_cases h2:n<=2000
 ·go_enter Tryd.func30,Tryd.ntmps30
  go_wp2
  go_ret
  refine ⟨w.heap.size,rfl,⟨Nat.le_refl _,by simp,A,n,c,h2,heap_alloc_new _ _,h.keep fun k hk=>Below.heap_alloc _ _ _ hk⟩,by (repeat (first | exact rfl | exact Below.refl _ _ | (with_reducible refine Below.drew ?_) | (with_reducible refine Below.drewN ?_ _) | (with_reducible refine Below.alloc ?_ ?_ _) | (with_reducible refine Below.setCell ?_ ?_ _) | (show _<=_;focus (first | omega | (simp;done) | (simp;omega)))))⟩
 ·go_enter Tryd.func30,Tryd.ntmps30
  go_wp2
  go_ret
  refine ⟨w.heap.size,rfl,⟨Nat.le_refl _,by simp,A,2000,c,by omega,heap_alloc_new _ _,fun _=>?_⟩,by (repeat (first | exact rfl | exact Below.refl _ _ | (with_reducible refine Below.drew ?_) | (with_reducible refine Below.drewN ?_ _) | (with_reducible refine Below.alloc ?_ ?_ _) | (with_reducible refine Below.setCell ?_ ?_ _) | (show _<=_;focus (first | omega | (simp;done) | (simp;omega)))))⟩
  obtain ⟨b,off,rfl,hlt,hcc⟩:=(h.keep (w':=w.alloc (.cells #[.slice A 2000 c,.int .i64 0] 89)) fun k hk=>Below.heap_alloc _ _ _ hk) (by omega)
  exact ⟨b,off,rfl,hlt,fun k hk=>hcc k (by omega)⟩
end Go.Proofs.YticccnkanihpnaaDoor
namespace Go.Proofs.YticccnkanihpnaaDoor
set_option linter.unusedVariables false
open Go.RowKit
attribute [local go_sem ↓] Go.wp_at_zero Go.wp_at_succ
def wv (L:List (Int×Int)):Nat->Int
 | 0=>0
 | k+1=>waitAt L k
def ay (L:List (Int×Int)):Nat->Int
 | 0=>0
 | k+1=>Y L k
structure WInv (L:List (Int×Int)) (w:World) (B p q b:Nat) (k:Nat) (v:Value) (W:World):Prop where
 below:Below B w W
 hp:B<=p
 hpq:p < q
 hqb:q < b
 hb:b<=W.heap.size
 cp:W.heap[p]?=some (.cells #[.int .i64 (wv L k)] 3 (0,0))
 cq:W.heap[q]?=some (.cells #[.int .i64 (prevOf L k),.int .i64 (ay L k)] 63 (0,0))
 own:IO W b v (waitsTo L k)
theorem WInv.keep {L:List (Int×Int)} {w:World} {B p q b k:Nat} {v:Value} {W W':World} (h:WInv L w B p q b k v W) (hW:Below W.heap.size W W'):WInv L w B p q b k v W':=by
 obtain ⟨h1,h2,h3,h4,h5,h6,h7,h8⟩:=h
 have hs:=hW.size
 exact ⟨h1.trans (hW.mono (by omega)),h2,h3,h4,by omega,(hW.block p (by omega)).trans h6,(hW.block q (by omega)).trans h7,h8.below hW (Nat.le_refl _)⟩
end Go.Proofs.YticccnkanihpnaaDoor
namespace Go.Proofs.YticccnkanihpnaaDoor
set_option linter.unusedVariables false
open Go.RowKit
attribute [local go_sem ↓] Go.wp_at_zero Go.wp_at_succ
end Go.Proofs.YticccnkanihpnaaDoor
namespace Go.Proofs.YticccnkanihpnaaDoor
set_option linter.unusedVariables false
open Go.RowKit
theorem CO.grownR' {w w':World} {base:Nat} {row:Option Nat} {v:Value} {L:List (Int×Int)} (h:CO w base v L) (hg:w.grownBy w' row) (hr:∀ r,v.ownBlock=some r->row≠some r):CO w' base v L:=by
 have hl:=owns_lt h
 refine ⟨h.1,?_⟩
 rcases h.2 with h2 | ⟨g,cap,cur,rfl,hgb,hh,rest⟩
 ·exact .inl h2
 ·have:=hl g (by simp [Value.ownBlock])
  exact .inr ⟨g,cap,cur,rfl,hgb,by rw [hg.block g (by omega) (fun e=>hr g (by simp [Value.ownBlock]) e.symm)];exact hh,rest⟩
section
variable {w:World}
end
structure COO (w:World) (base:Nat) (v:Value) (xss:List (List (Int×Int))) (vs:List Value):Prop where
 row:w.ownsRow base 51 1 v xss.length vs
 inner:∀ k,k < xss.length->CO w base (vs.getD k undef) (xss.getD k [])
 apart:∀ k,k < xss.length->∀ r,(vs.getD k undef).ownBlock=some r->v.ownBlock≠some r
 diff:∀ i j,i < xss.length->j < xss.length->i≠j->∀ r,(vs.getD i undef).ownBlock=some r->(vs.getD j undef).ownBlock≠some r
theorem COO.len {w:World} {base:Nat} {v:Value} {xss:List (List (Int×Int))} {vs:List Value} (h:COO w base v xss vs):vs.length=xss.length:=by
 have:=h.row.1
 omega
theorem COO.nil (w:World) (base:Nat):COO w base (.slice none 0 0) [] []:=⟨⟨rfl,.inl ⟨rfl,rfl⟩⟩,fun k h=>by simp at h,fun k h=>by simp at h,fun i j h=>by simp at h⟩
theorem COO.empty (w:World) {base:Nat} (h:base<=w.heap.size):COO (w.alloc (.cells #[] 51)) base (.slice (some ⟨w.heap.size,0,none⟩) 0 0) [] [] :=
 ⟨⟨rfl,.inr ⟨w.heap.size,0,#[],rfl,h,heap_alloc_new _ _,Nat.le_refl _,by simp [maxLen],rfl,rfl⟩⟩,fun k h=>by simp at h,fun k h=>by simp at h,fun i j h=>by simp at h⟩
theorem COO.below {w w':World} {base B:Nat} {v:Value} {xss:List (List (Int×Int))} {vs:List Value} (h:COO w base v xss vs) (hb:Below B w w') (hB:w.heap.size<=B):COO w' base v xss vs :=
 ⟨owns_below h.row hb hB,fun k hk=>(h.inner k hk).below hb hB,h.apart,h.diff⟩
theorem COO.mono {w:World} {base base':Nat} {v:Value} {xss:List (List (Int×Int))} {vs:List Value} (h:COO w base v xss vs) (hB:base'<=base):COO w base' v xss vs :=
 ⟨owns_mono h.row hB,fun k hk=>(h.inner k hk).mono hB,h.apart,h.diff⟩
theorem COO.form {w:World} {base:Nat} {v:Value} {xss:List (List (Int×Int))} {vs:List Value} (h:COO w base v xss vs) :
  ∃ A c,v=.slice A xss.length c∧xss.length<=c∧c<=maxLen∧(0 < xss.length->∃ g,A=some ⟨g,0,none⟩∧base<=g∧g < w.heap.size∧(∀ k,k < xss.length->w.cell? ⟨g,k,none⟩=some (vs.getD k undef))∧∀ j,w.frozen? ⟨g,j,none⟩=false):=by
 have hl:=owns_lt h.row
 have hn:=h.len
 rcases h.row.2 with ⟨rfl,h0⟩ | ⟨g,cap,cur,rfl,hg,hh,h1,h2,h3,h4⟩
 ·exact ⟨none,0,by rw [h0],by omega,by simp [maxLen],fun hp=>by omega⟩
 ·refine ⟨_,cap,rfl,h1,h2,fun _=>⟨g,rfl,hg,hl g (by simp [Value.ownBlock]),fun k hk=>?_,fun j=>World.ownsRow.frozenAt h.row j⟩⟩
  rw [World.ownsRow.cellAt h.row k (by omega)]
  simp [List.getD,List.getElem?_eq_getElem (show k < vs.length by omega)]
theorem COO.cells {w:World} {base g n c:Nat} {xss:List (List (Int×Int))} {vs:List Value} (h:COO w base (.slice (some ⟨g,0,none⟩) n c) xss vs) :
  n=xss.length∧(∀ k,k < n->w.cell? ⟨g,k,none⟩=some (vs.getD k undef))∧∀ j,w.frozen? ⟨g,j,none⟩=false:=by
 have hn:n=xss.length:=by
  rcases h.row.2 with ⟨h2,_⟩ | ⟨g',cap,cur,h2,_⟩
  ·cases h2
  ·injection h2
 subst hn
 refine ⟨rfl,fun k hk=>?_,fun j=>World.ownsRow.frozenAt h.row j⟩
 have:=h.len
 rw [World.ownsRow.cellAt h.row k (by omega)]
 simp [List.getD,List.getElem?_eq_getElem (show k < vs.length by omega)]
end Go.Proofs.YticccnkanihpnaaDoor

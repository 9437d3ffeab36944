import Derived.Test.YthpccmkagikhjaaGreatDoorQExactDeskSay1
import Derived.Test.YthpccmkagikhjaaGreatDoorProg
import Derived.Deep.RegionHeld3
import Derived.Deep.AppendLies
import Derived.Deep.DrawnRows
import Derived.StillTail
import Derived.Deep.Quiet
import Derived.ArgAppend
import Derived.Laws.IdiomCopy
import Derived.Lib.LaidTab
import Derived.Lib.ItoaNum
import Derived.Test.YthpccmkagikhjaaGreatDoorRows
import Derived.Stop.LaidErr
import Derived.Deep.DeepHandedRow
import Derived.Shelf.Vars
namespace Go.Proofs.YthpccmkagikhjaaGreatDoor
set_option linter.unusedVariables false
open Go.RowKit
set_option maxRecDepth 8000
section
theorem infoI:(Tryz.prog.info? 3).map (fun i=>(i.zero,i.size,i.bytes))=some (some (.int .i64 0),1,8):=by kernel_rfl
theorem infoC:(Tryz.prog.info? 100).map (fun i=>(i.zero,i.size,i.bytes))=some (some (.agg #[.int .i64 0,.int .i64 0]),2,16):=by kernel_rfl
def Z (xs:List Int) (k:Nat):Int:=xs.getD k 0
def Is (w:World) (B:Nat) (A:Option Addr) (xs:List Int):Prop :=
 0 < xs.length->∃ b off,A=some ⟨b,off,none⟩∧b < B∧∀ k,k < xs.length->w.cell? ⟨b,off+k,none⟩=some (.int .i64 (Z xs k))
theorem Is.below {w w':World} {B:Nat} {A:Option Addr} {xs:List Int} (h:Is w B A xs) (hb:Below B w w'):Is w' B A xs:=by
 intro hn
 obtain ⟨b,off,rfl,hlt,hc⟩:=h hn
 exact ⟨b,off,rfl,hlt,fun k hk=>(hb.cell (p:=⟨b,_,none⟩) hlt).trans (hc k hk)⟩
theorem Is.more {w:World} {B B':Nat} {A:Option Addr} {xs:List Int} (h:Is w B A xs) (hb:B<=B'):Is w B' A xs:=by
 intro hn
 obtain ⟨b,off,rfl,hlt,hc⟩:=h hn
 exact ⟨b,off,rfl,by omega,hc⟩
def IO (w:World) (base:Nat) (v:Value) (xs:List Int):Prop:=w.ownsRow base 3 1 v xs.length (xs.map (Value.int .i64))
def flatC (L:List (Int×Int)):List Value:=L.flatMap fun c=>[.int .i64 c.1,.int .i64 c.2]
def CO (w:World) (base:Nat) (v:Value) (L:List (Int×Int)):Prop:=w.ownsRow base 100 2 v L.length (flatC L)
theorem flatC_len (L:List (Int×Int)):(flatC L).length=L.length * 2:=by
 induction L with
 | nil=>rfl
 | cons c L ih=>simp [flatC] at ih ⊢;omega
theorem flatC_at (L:List (Int×Int)):∀ k,k < L.length->(flatC L)[k * 2]?=some (.int .i64 (X L k))∧(flatC L)[k * 2+1]?=some (.int .i64 (Y L k)):=by
 induction L with
 | nil=>intro k hk;simp at hk
 | cons c L ih =>
  intro k hk
  cases k with
  | zero=>exact ⟨rfl,rfl⟩
  | succ k =>
   have:=ih k (by simpa using hk)
   have e1:(k+1) * 2=k * 2+1+1:=by omega
   simp only [flatC,List.flatMap_cons,e1,List.cons_append,List.nil_append,List.getElem?_cons_succ,X,Y,List.getD_cons_succ] at this ⊢
   exact this
theorem flatC_snoc (L:List (Int×Int)) (c:Int×Int):flatC (L++[c])=flatC L++[.int .i64 c.1,.int .i64 c.2]:=by simp [flatC]
theorem owns_base {w:World} {base:Nat} {e:TypeId} {size:Nat} {v:Value} {n:Nat} {xs:List Value} (h:w.ownsRow base e size v n xs):∀ k,v.ownBlock=some k->base<=k:=by
 intro k hk
 rcases h.2 with ⟨rfl,_⟩ | ⟨g,cap,cur,rfl,hg,_⟩
 ·simp [Value.ownBlock] at hk
 ·simp [Value.ownBlock] at hk;omega
theorem owns_lt {w:World} {base:Nat} {e:TypeId} {size:Nat} {v:Value} {n:Nat} {xs:List Value} (h:w.ownsRow base e size v n xs):∀ k,v.ownBlock=some k->k < w.heap.size:=by
 intro k hk
 rcases h.2 with ⟨rfl,_⟩ | ⟨g,cap,cur,rfl,hg,hh,_⟩
 ·simp [Value.ownBlock] at hk
 ·simp [Value.ownBlock] at hk;subst hk
  rcases Nat.lt_or_ge g w.heap.size with h | h
  ·exact h
  ·rw [Array.getElem?_eq_none h] at hh;cases hh
theorem owns_below {w w':World} {base:Nat} {e:TypeId} {size:Nat} {v:Value} {n:Nat} {xs:List Value} (h:w.ownsRow base e size v n xs) {B:Nat} (hb:Below B w w') (hB:w.heap.size<=B):w'.ownsRow base e size v n xs:=by
 refine ⟨h.1,?_⟩
 have hl:=owns_lt h
 rcases h.2 with h2 | ⟨g,cap,cur,rfl,hg,hh,r⟩
 ·exact .inl h2
 ·have:=hl g (by simp [Value.ownBlock])
  exact .inr ⟨g,cap,cur,rfl,hg,by rw [hb.block g (by omega)];exact hh,r⟩
theorem owns_mono {w:World} {base base':Nat} {e:TypeId} {size:Nat} {v:Value} {n:Nat} {xs:List Value} (h:w.ownsRow base e size v n xs) (hB:base'<=base):w.ownsRow base' e size v n xs:=by
 refine ⟨h.1,?_⟩
 rcases h.2 with h2 | ⟨g,cap,cur,rfl,hg,r⟩
 ·exact .inl h2
 ·exact .inr ⟨g,cap,cur,rfl,by omega,r⟩
theorem IO.nil (w:World) (base:Nat):IO w base (.slice none 0 0) []:=⟨rfl,.inl ⟨rfl,rfl⟩⟩
theorem CO.nil (w:World) (base:Nat):CO w base (.slice none 0 0) []:=⟨rfl,.inl ⟨rfl,rfl⟩⟩
theorem IO.empty (w:World) {base:Nat} (h:base<=w.heap.size):IO (w.alloc (.cells #[] 3)) base (.slice (some ⟨w.heap.size,0,none⟩) 0 0) [] :=
 ⟨rfl,.inr ⟨w.heap.size,0,#[],rfl,h,heap_alloc_new _ _,Nat.le_refl _,by simp [maxLen],rfl,rfl⟩⟩
theorem CO.empty (w:World) {base:Nat} (h:base<=w.heap.size):CO (w.alloc (.cells #[] 100)) base (.slice (some ⟨w.heap.size,0,none⟩) 0 0) [] :=
 ⟨rfl,.inr ⟨w.heap.size,0,#[],rfl,h,heap_alloc_new _ _,Nat.le_refl _,by simp [maxLen],rfl,rfl⟩⟩
theorem IO.below {w w':World} {base B:Nat} {v:Value} {xs:List Int} (h:IO w base v xs) (hb:Below B w w') (hB:w.heap.size<=B):IO w' base v xs:=owns_below h hb hB
theorem CO.below {w w':World} {base B:Nat} {v:Value} {xs:List (Int×Int)} (h:CO w base v xs) (hb:Below B w w') (hB:w.heap.size<=B):CO w' base v xs:=owns_below h hb hB
theorem IO.mono {w:World} {base base':Nat} {v:Value} {xs:List Int} (h:IO w base v xs) (hB:base'<=base):IO w base' v xs:=owns_mono h hB
theorem CO.mono {w:World} {base base':Nat} {v:Value} {xs:List (Int×Int)} (h:CO w base v xs) (hB:base'<=base):CO w base' v xs:=owns_mono h hB
theorem IO.form {w:World} {base:Nat} {v:Value} {xs:List Int} (h:IO w base v xs):∃ A c,v=.slice A xs.length c∧xs.length<=c∧c<=maxLen∧Is w w.heap.size A xs:=by
 have hl:=owns_lt h
 rcases h.2 with ⟨rfl,h0⟩ | ⟨g,cap,cur,rfl,hg,hh,h1,h2,h3,h4⟩
 ·exact ⟨none,0,by rw [h0],by omega,by simp [maxLen],fun hp=>by omega⟩
 ·refine ⟨_,cap,rfl,h1,h2,fun hp=>⟨g,0,rfl,hl g (by simp [Value.ownBlock]),fun k hk=>?_⟩⟩
  rw [World.ownsRow.cellAt h (0+k) (by omega)]
  simp [Z,hk]
theorem CO.form {w:World} {base:Nat} {v:Value} {L:List (Int×Int)} (h:CO w base v L):∃ A c,v=.slice A L.length c∧L.length<=c∧c<=maxLen∧Cs w w.heap.size A L:=by
 have hl:=owns_lt h
 rcases h.2 with ⟨rfl,h0⟩ | ⟨g,cap,cur,rfl,hg,hh,h1,h2,h3,h4⟩
 ·exact ⟨none,0,by rw [h0],by omega,by simp [maxLen],fun hp=>by omega⟩
 ·refine ⟨_,cap,rfl,h1,h2,fun hp=>⟨g,0,rfl,hl g (by simp [Value.ownBlock]),fun k hk=>?_⟩⟩
  have:=flatC_at L k hk
  refine ⟨?_,?_⟩
  ·rw [Nat.zero_add,World.ownsRow.cellAt h (k * 2) (by omega)];exact this.1
  ·rw [Nat.zero_add,World.ownsRow.cellAt h (k * 2+1) (by omega)];exact this.2
theorem CO.cells {w:World} {base g n c:Nat} {M:List (Int×Int)} (h:CO w base (.slice (some ⟨g,0,none⟩) n c) M) :
  n=M.length∧(∀ k,k < n->w.cell? ⟨g,k * 2,none⟩=some (.int .i64 (X M k))∧w.cell? ⟨g,k * 2+1,none⟩=some (.int .i64 (Y M k)))∧∀ j,w.frozen? ⟨g,j,none⟩=false:=by
 have hn:n=M.length:=by
  rcases h.2 with ⟨h2,_⟩ | ⟨g',cap,cur,h2,_⟩
  ·cases h2
  ·injection h2
 subst hn
 refine ⟨rfl,fun k hk=>?_,fun j=>World.ownsRow.frozenAt h j⟩
 have:=flatC_at M k hk
 exact ⟨(World.ownsRow.cellAt h (k * 2) (by omega)).trans this.1,(World.ownsRow.cellAt h (k * 2+1) (by omega)).trans this.2⟩
theorem IO.cells {w:World} {base g n c:Nat} {M:List Int} (h:IO w base (.slice (some ⟨g,0,none⟩) n c) M) :
  n=M.length∧(∀ k,k < n->w.cell? ⟨g,k,none⟩=some (.int .i64 (Z M k)))∧∀ j,w.frozen? ⟨g,j,none⟩=false:=by
 have hn:n=M.length:=by
  rcases h.2 with ⟨h2,_⟩ | ⟨g',cap,cur,h2,_⟩
  ·cases h2
  ·injection h2
 subst hn
 refine ⟨rfl,fun k hk=>?_,fun j=>World.ownsRow.frozenAt h j⟩
 rw [World.ownsRow.cellAt h k (by omega)]
 simp [Z,hk]
theorem IO.store {w:World} {base g n c:Nat} {M:List Int} (h:IO w base (.slice (some ⟨g,0,none⟩) n c) M) (k:Nat) (x:Int) :
  IO (w.setCell ⟨g,k,none⟩ (.int .i64 x)) base (.slice (some ⟨g,0,none⟩) n c) (M.set k x):=by
 have hn:=h.cells.1
 subst hn
 have h1:=(World.ownsRow.stored (g:=g) (cap:=c) h k (.int .i64 x)).1
 unfold IO
 rw [List.length_set,List.map_set]
 exact h1
theorem IO.alloc {w:World} {base:Nat} {v:Value} {xs:List Int} (h:IO w base v xs) (o:Obj):IO (w.alloc o) base v xs:=World.ownsRow.alloc h o
theorem IO.drew {w:World} {base:Nat} {v:Value} {xs:List Int} (h:IO w base v xs):IO w.drew base v xs:=h
theorem CO.alloc {w:World} {base:Nat} {v:Value} {xs:List (Int×Int)} (h:CO w base v xs) (o:Obj):CO (w.alloc o) base v xs:=World.ownsRow.alloc h o
theorem CO.drew {w:World} {base:Nat} {v:Value} {xs:List (Int×Int)} (h:CO w base v xs):CO w.drew base v xs:=h
section
variable {w:World}
theorem app_I {ops:Array Oper} {rest:List Oper} {o:Oper} {a:Act} {Q:Exit->Act->World->Prop} (hgd:o.guard=none) (s x:Operand)
  (ho:o.op=.call { callee:=.builtin .append,args:=#[s,x],argTypes:=#[85,85] })
  (base:Nat) (v:Value) (xs:List Int) (y:Int) (B:Nat) (hs:a.eval s=v) (hown:IO w base v xs) (hx:a.eval x=.slice (some ⟨B,0,none⟩) 1 1)
  (hB:w.heap[B]?=some (.cells #[.int .i64 y] 3 (0,0))) (hlen:xs.length<=1000000000000) (hbase:base<=w.heap.size)
  (h:∀ g cap w',IO w' base (.slice (some ⟨g,0,none⟩) (xs.length+1) cap) (xs++[y])->w.grownBy w' v.ownBlock->Below base w w'->wpList Tryz.prog ops Q rest (a.put o.dst (.slice (some ⟨g,0,none⟩) (xs.length+1) cap)) w') :
  wpList Tryz.prog ops Q (o::rest) a w:=by
 obtain ⟨i0,hi,hz0,hz1,hz2⟩:=info_parts infoI
 refine wpList_append_lies w hgd s x _ ho base 3 i0 _ 1 8 Tryz.underlying85 hi hz0 hz1 hz2 rfl (by decide) v xs.length _ hs hown
  ⟨B,0,none⟩ 1 1 [.int .i64 y] hx rfl (World.news_of_block (cs:=#[.int .i64 y]) hB) (by simp [Value.oneCell']) (by decide) (by simp only [maxLen];omega) (by omega) hbase _ rfl ?_
 intro g cap w' h1 h2 _ _
 exact h g cap w' (by simpa [IO] using h1) h2 ((Below.refl _ _).grown h2 hbase (owns_base hown))
theorem step_I {ops:Array Oper} {o:Oper} {a:Act} {K:Act->World->Prop} {Q:Exit->Act->World->Prop} {E:Prop} (hgd:o.guard=none) (s x:Operand)
  (ho:o.op=.call { callee:=.builtin .append,args:=#[s,x],argTypes:=#[85,85] })
  (base:Nat) (v:Value) (xs:List Int) (y:Int) (B:Nat) (hs:a.eval s=v) (hown:IO w base v xs) (hx:a.eval x=.slice (some ⟨B,0,none⟩) 1 1)
  (hB:w.heap[B]?=some (.cells #[.int .i64 y] 3 (0,0))) (hlen:xs.length<=1000000000000) (hbase:base<=w.heap.size)
  (h:∀ g cap w',IO w' base (.slice (some ⟨g,0,none⟩) (xs.length+1) cap) (xs++[y])->w.grownBy w' v.ownBlock->Below base w w'->K (a.put o.dst (.slice (some ⟨g,0,none⟩) (xs.length+1) cap)) w') :
  if Region.wanted o (yielded ops a.tmps)=true then Oper.wp Tryz.prog o a w K Q else E:=by
 obtain ⟨i0,hi,hz0,hz1,hz2⟩:=info_parts infoI
 refine step_append_lies w hgd s x _ ho base 3 i0 _ 1 8 Tryz.underlying85 hi hz0 hz1 hz2 rfl (by decide) v xs.length _ hs hown
  ⟨B,0,none⟩ 1 1 [.int .i64 y] hx rfl (World.news_of_block (cs:=#[.int .i64 y]) hB) (by simp [Value.oneCell']) (by decide) (by simp only [maxLen];omega) (by omega) hbase _ rfl ?_
 intro g cap w' h1 h2 _ _
 exact h g cap w' (by simpa [IO] using h1) h2 ((Below.refl _ _).grown h2 hbase (owns_base hown))
theorem app_C {ops:Array Oper} {rest:List Oper} {o:Oper} {a:Act} {Q:Exit->Act->World->Prop} (hgd:o.guard=none) (s x:Operand)
  (ho:o.op=.call { callee:=.builtin .append,args:=#[s,x],argTypes:=#[28,28] })
  (base:Nat) (v:Value) (L:List (Int×Int)) (p q:Int) (B:Nat) (hs:a.eval s=v) (hown:CO w base v L) (hx:a.eval x=.slice (some ⟨B,0,none⟩) 1 1)
  (hB:w.heap[B]?=some (.cells #[.int .i64 p,.int .i64 q] 100 (0,0))) (hlen:L.length<=1000000000000) (hbase:base<=w.heap.size)
  (h:∀ g cap w',CO w' base (.slice (some ⟨g,0,none⟩) (L.length+1) cap) (L++[(p,q)])->w.grownBy w' v.ownBlock->Below base w w'->wpList Tryz.prog ops Q rest (a.put o.dst (.slice (some ⟨g,0,none⟩) (L.length+1) cap)) w') :
  wpList Tryz.prog ops Q (o::rest) a w:=by
 obtain ⟨i0,hi,hz0,hz1,hz2⟩:=info_parts infoC
 refine wpList_append_lies w hgd s x _ ho base 100 i0 _ 2 16 Tryz.underlying28 hi hz0 hz1 hz2 rfl (by decide) v L.length _ hs hown
  ⟨B,0,none⟩ 1 1 [.int .i64 p,.int .i64 q] hx rfl (World.news_of_block (cs:=#[.int .i64 p,.int .i64 q]) hB) (by simp [Value.oneCell']) (by decide) (by simp only [maxLen];omega) (by omega) hbase _ rfl ?_
 intro g cap w' h1 h2 _ _
 exact h g cap w' (by simpa [CO,flatC_snoc] using h1) h2 ((Below.refl _ _).grown h2 hbase (owns_base hown))
theorem step_C {ops:Array Oper} {o:Oper} {a:Act} {K:Act->World->Prop} {Q:Exit->Act->World->Prop} {E:Prop} (hgd:o.guard=none) (s x:Operand)
  (ho:o.op=.call { callee:=.builtin .append,args:=#[s,x],argTypes:=#[28,28] })
  (base:Nat) (v:Value) (L:List (Int×Int)) (p q:Int) (B:Nat) (hs:a.eval s=v) (hown:CO w base v L) (hx:a.eval x=.slice (some ⟨B,0,none⟩) 1 1)
  (hB:w.heap[B]?=some (.cells #[.int .i64 p,.int .i64 q] 100 (0,0))) (hlen:L.length<=1000000000000) (hbase:base<=w.heap.size)
  (h:∀ g cap w',CO w' base (.slice (some ⟨g,0,none⟩) (L.length+1) cap) (L++[(p,q)])->w.grownBy w' v.ownBlock->Below base w w'->K (a.put o.dst (.slice (some ⟨g,0,none⟩) (L.length+1) cap)) w') :
  if Region.wanted o (yielded ops a.tmps)=true then Oper.wp Tryz.prog o a w K Q else E:=by
 obtain ⟨i0,hi,hz0,hz1,hz2⟩:=info_parts infoC
 refine step_append_lies w hgd s x _ ho base 100 i0 _ 2 16 Tryz.underlying28 hi hz0 hz1 hz2 rfl (by decide) v L.length _ hs hown
  ⟨B,0,none⟩ 1 1 [.int .i64 p,.int .i64 q] hx rfl (World.news_of_block (cs:=#[.int .i64 p,.int .i64 q]) hB) (by simp [Value.oneCell']) (by decide) (by simp only [maxLen];omega) (by omega) hbase _ rfl ?_
 intro g cap w' h1 h2 _ _
 exact h g cap w' (by simpa [CO,flatC_snoc] using h1) h2 ((Below.refl _ _).grown h2 hbase (owns_base hown))
end
end
section
structure WB (B:Nat) (w:World) where
 val:World
 below:Below B w val
instance (B:Nat) (w:World):Nonempty (WB B w):=⟨⟨w,Below.refl _ _⟩⟩
theorem wp_region_wb {P:Program} {id:Nat} {Q:Exit->Act->World->Prop} {a:Act} {w:World} {l:List Oper} (B:Nat) (hm:P.follows .mixedOrders=true) (hB:Region.lexB .any l.toArray=true)
  (h:wpQuiet P l.toArray (fun w'=>∃ s:WB B w,w'=s.val) (fun a'=>∀ w',(∃ s:WB B w,w'=s.val)->Q .normal a' w') l a):(Code.region id l.toArray true).wp P Q a w :=
 wp_region_quiet (C:=fun w'=>∃ s:WB B w,w'=s.val) hm hB ⟨⟨w.drew,(Below.refl _ _).drew⟩,rfl⟩ (by simpa using h)
theorem Calls.inB {P:Program} {f:FuncId} {args:Array Value} {B:Nat} {w:World} {s:WB B w} {v:Value} (hB:B<=w.heap.size)
  (h:Calls P f args s.val fun e w'=>e=.returned v∧Below s.val.heap.size s.val w'):Calls P f args s.val fun e w''=>e=.returned v∧∃ s':WB B w,w''=s'.val :=
 h.mono fun _ w' ⟨he,hb⟩=>⟨he,⟨w',s.below.trans (hb.mono (Nat.le_trans hB s.below.size))⟩,rfl⟩
theorem WB.cs {B:Nat} {w:World} (s:WB B w) {A:Option Addr} {L:List (Int×Int)} (h:Cs w B A L) (hB:B<=w.heap.size):Cs s.val s.val.heap.size A L :=
 (h.below s.below).more (Nat.le_trans hB s.below.size)
theorem WB.cell {B:Nat} {w:World} {b o:Nat} {v:Value} (hb:b < B) (h:w.cell? ⟨b,o,none⟩=some v):∀ s:WB B w,s.val.cell? ⟨b,o,none⟩=some v :=
 fun s=>(s.below.cell (p:=⟨b,o,none⟩) hb).trans h
end
section
def HeadQ (P:Program) (md:Region.Mode) (ops:Array Oper) (C:World->Prop) (n:Nat) (L:Array Bool->Act->Prop):Nat->Array Bool->Act->Prop
 | 0,listed,a=>L listed a
 | f+1,listed,a=>Region.ready md ops listed≠[]∧∀ i ∈ Region.ready md ops listed,i < n∧qOp P ops C i (HeadQ P md ops C n L f (listed.setIfInBounds i true)) a
section
variable {P:Program} {ops:Array Oper} {md:Region.Mode} {C:World->Prop} {n g:Nat} {L:Array Bool->Act->Prop}
theorem HeadQ.any {Q:Exit->Act->World->Prop} (hL:∀ listed a w,C w->L listed a->wpAny P md ops Q g listed a w) :
  ∀ (f:Nat) (listed:Array Bool) (a:Act) (w:World),C w->HeadQ P md ops C n L f listed a->wpAny P md ops Q (f+g) listed a w:=by
 intro f
 induction f with
 | zero=>intro listed a w hw h;rw [Nat.zero_add];exact hL _ _ _ hw h
 | succ f ih =>
  intro listed a w hw h
  have e:f+1+g=(f+g)+1:=by omega
  rw [e]
  exact ⟨fun h0=>absurd h0 h.1,fun i hi=>wpOp_of_qOp hw (fun a' w' hw' h'=>ih _ a' w' hw' h') (h.2 i hi).2⟩
theorem HeadQ.first {i:Nat} {o:Oper} {v:Value} (hi:ops[i]?=some o) (hsel:Region.noSelect ops=true) (hs:Region.sinkB md ops n=true) (hc:Region.chainB md ops n=true) (hn:n < ops.size) (hin:i < n)
  (hdone:∀ listed a,L listed a->∀ j ∈ Region.ready md ops listed,n<=j) :
  ∀ (f:Nat) (listed:Array Bool) (a:Act),HeadInv md ops n listed ->
   (∀ j oj,ops[j]?=some oj->j≠i->listed.getD j true=false->(∀ e ∈ oj.after,Region.binds md e=true->e.on≠i)->o.apart ops oj=true) ->
   i ∈ Region.ready md ops listed->YieldsIn P ops C o v a ->
   HeadQ P md ops C n L f (listed.setIfInBounds i true) (a.put o.dst v)->HeadQ P md ops C n L (f+1) listed a:=by
 have nosel:=Region.noSelect_spec hsel
 intro f
 induction f with
 | zero =>
  intro listed a inv _ hr hy H
  have early:∀ j ∈ Region.ready md ops listed,j < n:=fun j hj=>Nat.lt_of_not_le fun hge=>tail_waits hs hc hn inv _ i rfl hin (mem_ready.1 hr).1 j hge hj
  have only:∀ j ∈ Region.ready md ops listed,j=i:=fun j hj=>Classical.byContradiction fun hne=>by
   have h1:=hdone _ _ H j (ready_mono hj hne)
   have h2:=early j hj
   omega
  refine ⟨fun h0=>(by rw [h0] at hr;cases hr),fun j hj=>⟨early j hj,?_⟩⟩
  obtain rfl:=only j hj
  exact hy.qOp hi H
 | succ f ih =>
  intro listed a inv hfree hr hy H
  have early:∀ j ∈ Region.ready md ops listed,j < n:=fun j hj=>Nat.lt_of_not_le fun hge=>tail_waits hs hc hn inv _ i rfl hin (mem_ready.1 hr).1 j hge hj
  refine ⟨fun h0=>(by rw [h0] at hr;cases hr),fun j hj=>⟨early j hj,?_⟩⟩
  by_cases hji:j=i
  ·subst hji;exact hy.qOp hi H
  ·obtain ⟨hun,oj,hoj,hall⟩:=mem_ready.1 hj
   have hapart:o.apart ops oj=true:=hfree j oj hoj hji hun fun e he hb heq=>by
    have h1:=hall e he hb
    rw [heq,getD_both (mem_ready.1 hr).1] at h1
    cases h1
   have hput:=qOp_put hoj hapart (fun cs b=>nosel i o cs b hi) (fun cs b=>nosel j oj cs b hoj) hy (H.2 j (ready_mono hj hji)).2
   refine qOp_mono (fun a' h=>ih _ a' (inv.set hj (early j hj)) ?_ (ready_mono hr (Ne.symm hji)) h.1 ?_) hput
   ·intro k ok hk hki hunk hno
    refine hfree k ok hk hki ?_ hno
    by_cases hjk:j=k
    ·subst hjk;exact hun
    ·rwa [getD_set_ne true hjk] at hunk
   ·rw [Array.setIfInBounds_comm _ _ hji]
    exact h.2
theorem HeadQ.lex {Q:Act->Prop} (hsel:Region.noSelect ops=true) (hs:Region.sinkB md ops n=true) (hc:Region.chainB md ops n=true) (hn:n < ops.size) :
  ∀ (l:List Oper) (k:Nat) (listed:Array Bool) (a:Act),(∀ j,j < l.length->l[j]?=ops[k+j]?)->k+l.length=n->HeadInv md ops n listed ->
   Region.lexHead md ops g l.length k listed=true->wpQuiet P ops C Q l a ->
   HeadQ P md ops C n (fun listed' a'=>Region.seqB md ops g n listed'=true∧Q a') l.length listed a:=by
 intro l
 induction l with
 | nil =>
  intro k listed a _ hk _ hB h
  obtain rfl:k=n:=by simpa using hk
  exact ⟨by simpa [Region.lexHead] using hB,h⟩
 | cons o l ih =>
  intro k listed a hl hk inv hB h
  have h0:ops[k]?=some o:=by simpa using (hl 0 (by simp)).symm
  simp only [List.length_cons,Region.lexHead,Bool.and_eq_true] at hB hk
  have hr:k ∈ Region.ready md ops listed:=by simpa using hB.1.1
  have hkn:k < n:=by omega
  obtain ⟨v,hy,hK⟩:=yieldsIn_of_qOp (K:=wpQuiet P ops C Q l) h0 (by unfold qOp;simp only [h0];exact h)
  refine HeadQ.first h0 hsel hs hc hn hkn (fun _ _ hL=>seqB_ready hL.1) l.length listed a inv (Region.free_spec h0 hB.1.2) hr hy
   (ih (k+1) _ _ (fun j hj=>?_) (by omega) (inv.set hr hkn) hB.2 hK)
  have h2:=hl (j+1) (by simp;omega)
  have e:k+1+j=k+(j+1):=by omega
  rw [e,<- h2];rfl
end
theorem wp_region_quiet_tail {P:Program} {C:World->Prop} {id:Nat} {Q:Exit->Act->World->Prop} {a:Act} {w:World} {l:List Oper} (n:Nat) (hm:P.follows .mixedOrders=true) (hB:Region.lexTailB .any l.toArray n=true) (hC:C { w with drawn:=w.drawn+1 })
  (h:wpQuiet P l.toArray C (fun a'=>∀ w',C w'->wpList P l.toArray Q (l.drop n) a' w') (l.take n) a):(Code.region id l.toArray true).wp P Q a w:=by
 simp only [Region.lexTailB,Bool.and_eq_true,decide_eq_true_eq] at hB
 obtain ⟨⟨⟨⟨hsel,hn⟩,hs⟩,hc⟩,hlex⟩:=hB
 have hn':n < l.length:=by simpa using hn
 have htl:(l.take n).length=n:=by simp;omega
 have hdl:(l.drop n).length=l.toArray.size - n:=by simp
 have inv0:HeadInv .any l.toArray n (Array.replicate l.toArray.size false) :=
  ⟨by simp,fun j oj _ hl=>(by rw [getD_replicate_false] at hl;cases hl),fun t _ ht=>getD_in (by simpa using ht) (getD_replicate_false _ _)⟩
 have H:=HeadQ.lex (md:=.any) (g:=l.toArray.size - n) hsel hs hc hn (l.take n) 0 _ a (fun j hj=>by
  rw [htl] at hj
  simp [hj]) (by simpa using htl) inv0 (by rw [htl];exact hlex) h
 have K:=HeadQ.any (Q:=Q) (g:=l.toArray.size - n) (fun listed a' w' hw' hL=>by
  have:=wpAny_of_seq (md:=.any) (Q':=Q) (l.drop n) n listed a' w' (fun j=>by simp [List.getElem?_drop]) (by rw [hdl];exact hL.1) (hL.2 w' hw')
  rwa [hdl] at this) _ _ _ _ hC H
 rw [htl,show n+(l.toArray.size - n)=l.toArray.size by omega] at K
 exact wp_region_any hm K
theorem wp_region_wb_tail {P:Program} {id:Nat} {Q:Exit->Act->World->Prop} {a:Act} {w:World} {l:List Oper} (B n:Nat) (hm:P.follows .mixedOrders=true) (hB:Region.lexTailB .any l.toArray n=true)
  (h:wpQuiet P l.toArray (fun w'=>∃ s:WB B w,w'=s.val) (fun a'=>∀ w',(∃ s:WB B w,w'=s.val)->wpList P l.toArray Q (l.drop n) a' w') (l.take n) a):(Code.region id l.toArray true).wp P Q a w :=
 wp_region_quiet_tail (C:=fun w'=>∃ s:WB B w,w'=s.val) n hm hB ⟨⟨w.drew,(Below.refl _ _).drew⟩,rfl⟩ h
theorem IO.grownR {w w':World} {base:Nat} {row:Option Nat} {v:Value} {L:List Int} (h:IO w base v L) (hg:w.grownBy w' row) (hr:∀ r,row=some r->r < base):IO w' base v L:=by
 refine ⟨h.1,?_⟩
 have hl:=owns_lt h
 rcases h.2 with h2 | ⟨g,cap,cur,rfl,hgb,hh,rest⟩
 ·exact .inl h2
 ·have:=hl g (by simp [Value.ownBlock])
  exact .inr ⟨g,cap,cur,rfl,hgb,by rw [hg.block g (by omega) (fun e=>by have:=hr _ e.symm;omega)];exact hh,rest⟩
theorem IO.isOf {w:World} {base n c:Nat} {A:Option Addr} {xs:List Int} (h:IO w base (.slice A n c) xs):n=xs.length∧Is w w.heap.size A xs:=by
 obtain ⟨A',c',e,_,_,h'⟩:=h.form
 injection e with e1 e2 e3
 subst e1
 exact ⟨e2,h'⟩
theorem CO.isOf {w:World} {base n c:Nat} {A:Option Addr} {xs:List (Int×Int)} (h:CO w base (.slice A n c) xs):n=xs.length∧Cs w w.heap.size A xs:=by
 obtain ⟨A',c',e,_,_,h'⟩:=h.form
 injection e with e1 e2 e3
 subst e1
 exact ⟨e2,h'⟩
theorem CO.grownR {w w':World} {base:Nat} {row:Option Nat} {v:Value} {L:List (Int×Int)} (h:CO w base v L) (hg:w.grownBy w' row) (hr:∀ r,row=some r->r < base):CO w' base v L:=by
 refine ⟨h.1,?_⟩
 have hl:=owns_lt h
 rcases h.2 with h2 | ⟨g,cap,cur,rfl,hgb,hh,rest⟩
 ·exact .inl h2
 ·have:=hl g (by simp [Value.ownBlock])
  exact .inr ⟨g,cap,cur,rfl,hgb,by rw [hg.block g (by omega) (fun e=>by have:=hr _ e.symm;omega)];exact hh,rest⟩
theorem IO.grownR' {w w':World} {base:Nat} {row:Option Nat} {v:Value} {L:List Int} (h:IO w base v L) (hg:w.grownBy w' row) (hr:∀ r,v.ownBlock=some r->row≠some r):IO w' base v L:=by
 refine ⟨h.1,?_⟩
 have hl:=owns_lt h
 rcases h.2 with h2 | ⟨g,cap,cur,rfl,hgb,hh,rest⟩
 ·exact .inl h2
 ·have:=hl g (by simp [Value.ownBlock])
  exact .inr ⟨g,cap,cur,rfl,hgb,by rw [hg.block g (by omega) (fun e=>hr g (by simp [Value.ownBlock]) (by rw [<- e]))];exact hh,rest⟩
theorem IO.setLow {w:World} {base r o:Nat} {v u:Value} {xs:List Int} (h:IO w base v xs) (hr:r < base):IO (w.setCell ⟨r,o,none⟩ u) base v xs :=
 h.grownR (row:=some r) ⟨rfl,rfl,rfl,by simp [World.setCell],fun k _ hne=>Below.heap_setCell _ _ _ _ (fun e=>hne (by rw [e]))⟩ (fun r' e=>by cases e;exact hr)
theorem CO.setLow {w:World} {base r o:Nat} {v u:Value} {xs:List (Int×Int)} (h:CO w base v xs) (hr:r < base):CO (w.setCell ⟨r,o,none⟩ u) base v xs :=
 h.grownR (row:=some r) ⟨rfl,rfl,rfl,by simp [World.setCell],fun k _ hne=>Below.heap_setCell _ _ _ _ (fun e=>hne (by rw [e]))⟩ (fun r' e=>by cases e;exact hr)
def Sep (lo hi:Nat) (v:Value):Prop:=∀ r,v.ownBlock=some r->r=lo∨hi<=r
def Mid (lo hi:Nat) (w1 w:World):Prop:=∀ b,lo < b->b < hi->w.heap[b]?=w1.heap[b]?
theorem Mid.refl (lo hi:Nat) (w:World):Mid lo hi w w:=fun _ _ _=>rfl
theorem Mid.below {lo hi B:Nat} {w1 w w':World} (h:Mid lo hi w1 w) (hb:Below B w w') (hB:hi<=B):Mid lo hi w1 w':=fun b h1 h2=>(hb.block b (by omega)).trans (h b h1 h2)
theorem Mid.grown {lo hi:Nat} {w1 w w':World} {v:Value} (h:Mid lo hi w1 w) (hs:Sep lo hi v) (hg:w.grownBy w' v.ownBlock) (hB:hi<=w.heap.size):Mid lo hi w1 w':=fun b h1 h2 =>
 (hg.block b (by omega) (fun e=>by have:=hs b e.symm;omega)).trans (h b h1 h2)
theorem Mid.cell {lo hi:Nat} {w1 w:World} (h:Mid lo hi w1 w) {b o:Nat} (h1:lo < b) (h2:b < hi):w.cell? ⟨b,o,none⟩=w1.cell? ⟨b,o,none⟩:=World.cell?_of_block (h b h1 h2)
theorem Sep.lo (lo hi n c:Nat):Sep lo hi (.slice (some ⟨lo,0,none⟩) n c):=fun r e=>by simp [Value.ownBlock] at e;omega
theorem Sep.nil (lo hi n c:Nat):Sep lo hi (.slice none n c):=fun r e=>by simp [Value.ownBlock] at e
theorem IO.formG {w:World} {base:Nat} {v:Value} {xs:List Int} (h:IO w base v xs) :
  ∃ A c,v=.slice A xs.length c∧xs.length<=c∧(0 < xs.length->∃ b,A=some ⟨b,0,none⟩∧base<=b∧b < w.heap.size∧∀ k,k < xs.length->w.cell? ⟨b,k,none⟩=some (.int .i64 (Z xs k))):=by
 have hl:=owns_lt h
 have h':=h
 rcases h.2 with ⟨rfl,h0⟩ | ⟨g,cap,cur,rfl,hg,hh,h1,h2,h3,h4⟩
 ·exact ⟨none,0,by rw [h0],by omega,fun hp=>by omega⟩
 ·exact ⟨_,cap,rfl,h1,fun _=>⟨g,rfl,hg,hl g (by simp [Value.ownBlock]),h'.cells.2.1⟩⟩
section
variable {w:World}
theorem app_IS {ops:Array Oper} {rest:List Oper} {o:Oper} {a:Act} {Q:Exit->Act->World->Prop} (hgd:o.guard=none) (s x:Operand)
  (ho:o.op=.call { callee:=.builtin .append,args:=#[s,x],argTypes:=#[85,85] })
  (base:Nat) (v:Value) (xs:List Int) (y:Int) (B:Nat) (hs:a.eval s=v) (hown:IO w base v xs) (hx:a.eval x=.slice (some ⟨B,0,none⟩) 1 1)
  (hB:w.heap[B]?=some (.cells #[.int .i64 y] 3 (0,0))) (hlen:xs.length<=1000000000000) (hbase:base<=w.heap.size)
  (lo hi:Nat) (w1:World) (hsep:Sep lo hi v) (hmid:Mid lo hi w1 w) (hhi:hi<=w.heap.size)
  (h:∀ g cap w',IO w' base (.slice (some ⟨g,0,none⟩) (xs.length+1) cap) (xs++[y])->Below base w w'->Sep lo hi (.slice (some ⟨g,0,none⟩) (xs.length+1) cap)->Mid lo hi w1 w'->wpList Tryz.prog ops Q rest (a.put o.dst (.slice (some ⟨g,0,none⟩) (xs.length+1) cap)) w') :
  wpList Tryz.prog ops Q (o::rest) a w:=by
 obtain ⟨i0,hi0,hz0,hz1,hz2⟩:=info_parts infoI
 refine wpList_append_lies w hgd s x _ ho base 3 i0 _ 1 8 Tryz.underlying85 hi0 hz0 hz1 hz2 rfl (by decide) v xs.length _ hs hown
  ⟨B,0,none⟩ 1 1 [.int .i64 y] hx rfl (World.news_of_block (cs:=#[.int .i64 y]) hB) (by simp [Value.oneCell']) (by decide) (by simp only [maxLen];omega) (by omega) hbase _ rfl ?_
 intro g cap w' h1 h2 h3 _
 exact h g cap w' (by simpa [IO] using h1) ((Below.refl _ _).grown h2 hbase (owns_base hown)) (fun r e=>by
  simp [Value.ownBlock] at e;subst e
  rcases h3 with h3 | h3
  ·exact hsep _ h3
  ·omega) (hmid.grown hsep h2 hhi)
theorem step_IS {ops:Array Oper} {o:Oper} {a:Act} {K:Act->World->Prop} {Q:Exit->Act->World->Prop} {E:Prop} (hgd:o.guard=none) (s x:Operand)
  (ho:o.op=.call { callee:=.builtin .append,args:=#[s,x],argTypes:=#[85,85] })
  (base:Nat) (v:Value) (xs:List Int) (y:Int) (B:Nat) (hs:a.eval s=v) (hown:IO w base v xs) (hx:a.eval x=.slice (some ⟨B,0,none⟩) 1 1)
  (hB:w.heap[B]?=some (.cells #[.int .i64 y] 3 (0,0))) (hlen:xs.length<=1000000000000) (hbase:base<=w.heap.size)
  (lo hi:Nat) (w1:World) (hsep:Sep lo hi v) (hmid:Mid lo hi w1 w) (hhi:hi<=w.heap.size)
  (h:∀ g cap w',IO w' base (.slice (some ⟨g,0,none⟩) (xs.length+1) cap) (xs++[y])->Below base w w'->Sep lo hi (.slice (some ⟨g,0,none⟩) (xs.length+1) cap)->Mid lo hi w1 w'->K (a.put o.dst (.slice (some ⟨g,0,none⟩) (xs.length+1) cap)) w') :
  if Region.wanted o (yielded ops a.tmps)=true then Oper.wp Tryz.prog o a w K Q else E:=by
 obtain ⟨i0,hi0,hz0,hz1,hz2⟩:=info_parts infoI
 refine step_append_lies w hgd s x _ ho base 3 i0 _ 1 8 Tryz.underlying85 hi0 hz0 hz1 hz2 rfl (by decide) v xs.length _ hs hown
  ⟨B,0,none⟩ 1 1 [.int .i64 y] hx rfl (World.news_of_block (cs:=#[.int .i64 y]) hB) (by simp [Value.oneCell']) (by decide) (by simp only [maxLen];omega) (by omega) hbase _ rfl ?_
 intro g cap w' h1 h2 h3 _
 exact h g cap w' (by simpa [IO] using h1) ((Below.refl _ _).grown h2 hbase (owns_base hown)) (fun r e=>by
  simp [Value.ownBlock] at e;subst e
  rcases h3 with h3 | h3
  ·exact hsep _ h3
  ·omega) (hmid.grown hsep h2 hhi)
end
end
section
theorem run_keeps {w w':World} {base B:Nat} {v v':Value} {xs:List Int} {y:Int} {ty:TypeId} (hown:IO w base v xs) (hB:w.heap[B]?=some (.cells #[.int .i64 y] 3 (0,0))) (hlen:xs.length<=1000000000000)
  (hrun:(Builtin.append_ #[85,85] ty #[v,.slice (some ⟨B,0,none⟩) 1 1]).run Tryz.prog w=.ok v' w') :
  ∀ g0,v.ownBlock=some g0->∀ k,k < xs.length->w'.cell? ⟨g0,k,none⟩=w.cell? ⟨g0,k,none⟩:=by
 intro g0 hg0 k hk
 obtain ⟨i0,hi0,hz0,hz1,hz2⟩:=info_parts infoI
 have hown':=hown
 have hl:=owns_lt hown
 rcases hown.2 with ⟨rfl,h0⟩ | ⟨g,cap,cur,rfl,hg,hh,h1,h2,h3,h4⟩
 ·omega
 ·have e:g=g0:=by simpa [Value.ownBlock] using hg0
  subst e
  have hnew:=World.news_of_block (w:=w) (cs:=#[.int .i64 y]) hB
  by_cases hr:xs.length+1<=cap
  ·have e1:=run_append_room_cells (P:=Tryz.prog) w 85 ty 3 i0 Tryz.underlying85 hi0 g 0 xs.length cap ⟨B,0,none⟩ 1 1 [.int .i64 y] (by rw [hz1];rfl) hnew (by simp [Value.oneCell']) hr
    (fun j hj=>by
      have hj0:j=0:=by simpa using hj
      subst hj0
      simp only [hz1,Nat.mul_one,Nat.zero_add,Nat.add_zero]
      rw [cell_of_row w g xs.length _ _ _ hh]
      have:xs.length < cur.size:=by omega
      simp [this])
    (fun j _=>hown'.cells.2.2 _)
   rw [hrun] at e1
   injection e1 with _ e2
   rw [e2]
   exact World.cell?_setCells_out g _ _ w ⟨g,k,none⟩ (fun _ _=>.inl (by simp only [hz1,Nat.mul_one,Nat.zero_add];exact hk))
  ·obtain ⟨v2,w2,e1,_,e3⟩:=run_append_arg_grows (P:=Tryz.prog) w 85 ty 3 i0 _ 1 8 Tryz.underlying85 hi0 hz0 hz1 hz2 rfl (by decide) ⟨g,0,none⟩ xs.length cap (xs.map fun x=>.int .i64 x) (by simp)
    (fun j u hj=>by
      have hjl:j < xs.length:=by have:=(List.getElem?_eq_some_iff.1 hj).1;simpa using this
      have:=hown'.cells.2.1 j hjl
      have e:(⟨g,0,none⟩:Addr).add j=⟨g,j,none⟩:=by by_cases e:j=0 <;> simp [Addr.add,e]
      rw [e,this]
      simp [hjl] at hj
      simp [Z,hjl,hj])
    ⟨B,0,none⟩ 1 1 [.int .i64 y] rfl hnew (by omega) (by simp only [maxLen];omega) (by omega)
   rw [hrun] at e1
   injection e1 with _ e2
   rw [e2]
   exact World.cell?_of_block (e3.block g (hl g (by simp [Value.ownBlock])) (by simp))
section
variable {w:World}
theorem step_ISK {ops:Array Oper} {o:Oper} {a:Act} {K:Act->World->Prop} {Q:Exit->Act->World->Prop} {E:Prop} (hgd:o.guard=none) (s x:Operand)
  (ho:o.op=.call { callee:=.builtin .append,args:=#[s,x],argTypes:=#[85,85] })
  (base:Nat) (v:Value) (xs:List Int) (y:Int) (B:Nat) (hs:a.eval s=v) (hown:IO w base v xs) (hx:a.eval x=.slice (some ⟨B,0,none⟩) 1 1)
  (hB:w.heap[B]?=some (.cells #[.int .i64 y] 3 (0,0))) (hlen:xs.length<=1000000000000) (hbase:base<=w.heap.size)
  (lo hi:Nat) (w1:World) (hsep:Sep lo hi v) (hmid:Mid lo hi w1 w) (hhi:hi<=w.heap.size)
  (h:∀ g cap w',IO w' base (.slice (some ⟨g,0,none⟩) (xs.length+1) cap) (xs++[y])->Below base w w'->Sep lo hi (.slice (some ⟨g,0,none⟩) (xs.length+1) cap)->Mid lo hi w1 w' ->
    (∀ g0,v.ownBlock=some g0->∀ k,k < xs.length->w'.cell? ⟨g0,k,none⟩=w.cell? ⟨g0,k,none⟩)->K (a.put o.dst (.slice (some ⟨g,0,none⟩) (xs.length+1) cap)) w') :
  if Region.wanted o (yielded ops a.tmps)=true then Oper.wp Tryz.prog o a w K Q else E:=by
 obtain ⟨i0,hi0,hz0,hz1,hz2⟩:=info_parts infoI
 have hw:Region.wanted o (yielded ops a.tmps)=true:=by simp [Region.wanted,hgd]
 rw [if_pos hw]
 obtain ⟨g,cap,w',hr,h1,h2,h3,_⟩:=run_append_lies (P:=Tryz.prog) w 85 o.type base 3 i0 _ 1 8 Tryz.underlying85 hi0 hz0 hz1 hz2 rfl (by decide) v xs.length _ hown
  ⟨B,0,none⟩ 1 1 [.int .i64 y] rfl (World.news_of_block (cs:=#[.int .i64 y]) hB) (by simp [Value.oneCell']) (by decide) (by simp only [maxLen];omega) (by omega) hbase _ rfl
 have hk:=run_keeps hown hB hlen hr
 unfold Oper.wp execOp
 simp only [ho,resolve,invoke,builtin,Sem.run_bind,Sem.run_pure,Result.andThen_ok,List.map_toArray,List.map_cons,List.map_nil,hs,hx,hr]
 exact h g cap w' (by simpa [IO] using h1) ((Below.refl _ _).grown h2 hbase (owns_base hown)) (fun r e=>by
  simp [Value.ownBlock] at e;subst e
  rcases h3 with h3 | h3
  ·exact hsep _ h3
  ·omega) (hmid.grown hsep h2 hhi) hk
end
end
section
theorem infoS:(Tryz.prog.info? 85).map (fun i=>(i.zero,i.size,i.bytes))=some (some (.slice none 0 0),1,24):=by kernel_rfl
structure IOO (w:World) (base:Nat) (v:Value) (xss:List (List Int)) (vs:List Value):Prop where
 row:w.ownsRow base 85 1 v xss.length vs
 inner:∀ k,k < xss.length->IO w base (vs.getD k undef) (xss.getD k [])
 apart:∀ k,k < xss.length->∀ r,(vs.getD k undef).ownBlock=some r->v.ownBlock≠some r
 diff:∀ i j,i < xss.length->j < xss.length->i≠j->∀ r,(vs.getD i undef).ownBlock=some r->(vs.getD j undef).ownBlock≠some r
theorem IOO.len {w:World} {base:Nat} {v:Value} {xss:List (List Int)} {vs:List Value} (h:IOO w base v xss vs):vs.length=xss.length:=by
 have:=h.row.1
 omega
theorem IOO.nil (w:World) (base:Nat):IOO w base (.slice none 0 0) [] []:=⟨⟨rfl,.inl ⟨rfl,rfl⟩⟩,fun k h=>by simp at h,fun k h=>by simp at h,fun i j h=>by simp at h⟩
theorem IOO.empty (w:World) {base:Nat} (h:base<=w.heap.size):IOO (w.alloc (.cells #[] 85)) base (.slice (some ⟨w.heap.size,0,none⟩) 0 0) [] [] :=
 ⟨⟨rfl,.inr ⟨w.heap.size,0,#[],rfl,h,heap_alloc_new _ _,Nat.le_refl _,by simp [maxLen],rfl,rfl⟩⟩,fun k h=>by simp at h,fun k h=>by simp at h,fun i j h=>by simp at h⟩
theorem IOO.below {w w':World} {base B:Nat} {v:Value} {xss:List (List Int)} {vs:List Value} (h:IOO w base v xss vs) (hb:Below B w w') (hB:w.heap.size<=B):IOO w' base v xss vs :=
 ⟨owns_below h.row hb hB,fun k hk=>(h.inner k hk).below hb hB,h.apart,h.diff⟩
theorem IOO.mono {w:World} {base base':Nat} {v:Value} {xss:List (List Int)} {vs:List Value} (h:IOO w base v xss vs) (hB:base'<=base):IOO w base' v xss vs :=
 ⟨owns_mono h.row hB,fun k hk=>(h.inner k hk).mono hB,h.apart,h.diff⟩
theorem IOO.form {w:World} {base:Nat} {v:Value} {xss:List (List Int)} {vs:List Value} (h:IOO w base v xss vs) :
  ∃ A c,v=.slice A xss.length c∧xss.length<=c∧c<=maxLen∧(0 < xss.length->∃ g,A=some ⟨g,0,none⟩∧base<=g∧g < w.heap.size∧(∀ k,k < xss.length->w.cell? ⟨g,k,none⟩=some (vs.getD k undef))∧∀ j,w.frozen? ⟨g,j,none⟩=false):=by
 have hl:=owns_lt h.row
 have hn:=h.len
 rcases h.row.2 with ⟨rfl,h0⟩ | ⟨g,cap,cur,rfl,hg,hh,h1,h2,h3,h4⟩
 ·exact ⟨none,0,by rw [h0],by omega,by simp [maxLen],fun hp=>by omega⟩
 ·refine ⟨_,cap,rfl,h1,h2,fun _=>⟨g,rfl,hg,hl g (by simp [Value.ownBlock]),fun k hk=>?_,fun j=>World.ownsRow.frozenAt h.row j⟩⟩
  rw [World.ownsRow.cellAt h.row k (by omega)]
  simp [List.getD,List.getElem?_eq_getElem (show k < vs.length by omega)]
theorem IOO.cells {w:World} {base g n c:Nat} {xss:List (List Int)} {vs:List Value} (h:IOO w base (.slice (some ⟨g,0,none⟩) n c) xss vs) :
  n=xss.length∧(∀ k,k < n->w.cell? ⟨g,k,none⟩=some (vs.getD k undef))∧∀ j,w.frozen? ⟨g,j,none⟩=false:=by
 have hn:n=xss.length:=by
  rcases h.row.2 with ⟨h2,_⟩ | ⟨g',cap,cur,h2,_⟩
  ·cases h2
  ·injection h2
 subst hn
 refine ⟨rfl,fun k hk=>?_,fun j=>World.ownsRow.frozenAt h.row j⟩
 have:=h.len
 rw [World.ownsRow.cellAt h.row k (by omega)]
 simp [List.getD,List.getElem?_eq_getElem (show k < vs.length by omega)]
theorem IOO.inner_lt {w:World} {base:Nat} {v:Value} {xss:List (List Int)} {vs:List Value} (h:IOO w base v xss vs) {k:Nat} (hk:k < xss.length) {r:Nat} (hr:(vs.getD k undef).ownBlock=some r):r < w.heap.size∧base<=r :=
 ⟨owns_lt (h.inner k hk) r hr,owns_base (h.inner k hk) r hr⟩
theorem getD_app {α:Type} (xs:List α) (y d:α) (k:Nat):(xs++[y]).getD k d=if k < xs.length then xs.getD k d else if k=xs.length then y else d:=by
 simp only [List.getD]
 by_cases h:k < xs.length
 ·rw [if_pos h,List.getElem?_append_left h]
 ·rw [if_neg h]
  by_cases e:k=xs.length
  ·subst e;simp
  ·rw [if_neg e,List.getElem?_eq_none (by simp;omega)];rfl
theorem getD_set' {α:Type} (xs:List α) (y d:α) (n k:Nat) (h:n < xs.length):(xs.set n y).getD k d=if n=k then y else xs.getD k d:=by
 simp only [List.getD,List.getElem?_set]
 split
 ·rfl
 ·rfl
section
variable {w:World}
theorem IOO.grow {w w' W:World} {base g cap:Nat} {v sl:Value} {xss:List (List Int)} {ys:List Int} {vs:List Value}
  (h:IOO w base v xss vs) (hW:Below w.heap.size w W) (hin:IO W base sl ys) (hsl:∀ r,sl.ownBlock=some r->w.heap.size<=r)
  (h1:w'.ownsRow base 85 1 (.slice (some ⟨g,0,none⟩) (xss.length+1) cap) (xss.length+1) (vs++[sl])) (hg:W.grownBy w' v.ownBlock) (hat:v.ownBlock=some g∨g=W.heap.size) :
  IOO w' base (.slice (some ⟨g,0,none⟩) (xss.length+1) cap) (xss++[ys]) (vs++[sl]):=by
 have hln:=h.len
 have hsz:=hW.size
 have hvl:=owns_lt h.row
 have hsl2:=owns_lt hin
 have notg:∀ k,k < xss.length->∀ r,(vs.getD k undef).ownBlock=some r->r≠g:=by
  intro k hk r hr e
  subst e
  rcases hat with e2 | e2
  ·exact h.apart k hk _ hr e2
  ·have:=(h.inner_lt hk hr).1;omega
 refine ⟨by simpa using h1,fun k hk=>?_,fun k hk r hr e=>?_,fun i j hi hj hij r hr e=>?_⟩
 ·simp only [List.length_append,List.length_singleton] at hk
  rw [getD_app,getD_app,hln]
  by_cases e:k < xss.length
  ·rw [if_pos e,if_pos e]
   refine ((h.inner k e).below hW (Nat.le_refl _)).grownR' hg (fun r hr hr2=>h.apart k e r hr hr2)
  ·rw [if_neg e,if_neg e,if_pos (by omega),if_pos (by omega)]
   refine hin.grownR' hg (fun r hr hr2=>?_)
   have:=hsl r hr
   have:=hvl r hr2
   omega
 ·simp only [List.length_append,List.length_singleton] at hk
  have eg:g=r:=by simpa [Value.ownBlock] using e
  subst eg
  rw [getD_app,hln] at hr
  by_cases e1:k < xss.length
  ·rw [if_pos e1] at hr
   exact notg k e1 _ hr rfl
  ·rw [if_neg e1,if_pos (by omega)] at hr
   have:=hsl _ hr
   have:=hsl2 _ hr
   rcases hat with e2 | e2
   ·have:=hvl _ e2;omega
   ·omega
 ·simp only [List.length_append,List.length_singleton] at hi hj
  rw [getD_app,hln] at hr e
  by_cases e1:i < xss.length
  ·rw [if_pos e1] at hr
   by_cases e2:j < xss.length
   ·rw [if_pos e2] at e
    exact h.diff i j e1 e2 hij r hr e
   ·rw [if_neg e2,if_pos (by omega)] at e
    have:=hsl _ e
    have:=(h.inner_lt e1 hr).1
    omega
  ·rw [if_neg e1,if_pos (by omega)] at hr
   have:=hsl _ hr
   by_cases e2:j < xss.length
   ·rw [if_pos e2] at e
    have:=(h.inner_lt e2 e).1
    omega
   ·omega
theorem app_OO {ops:Array Oper} {rest:List Oper} {o:Oper} {a:Act} {Q:Exit->Act->World->Prop} (hgd:o.guard=none) (s x:Operand)
  (ho:o.op=.call { callee:=.builtin .append,args:=#[s,x],argTypes:=#[106,106] })
  (base:Nat) (v:Value) (xss:List (List Int)) (vs:List Value) (w0:World) (sl:Value) (ys:List Int) (B:Nat) (hs:a.eval s=v) (hown:IOO w0 base v xss vs) (hW:Below w0.heap.size w0 w)
  (hin:IO w base sl ys) (hsl:∀ r,sl.ownBlock=some r->w0.heap.size<=r) (hone:sl.oneCell'=true) (hx:a.eval x=.slice (some ⟨B,0,none⟩) 1 1)
  (hB:w.heap[B]?=some (.cells #[sl] 85 (0,0))) (hlen:xss.length<=1000000000) (hbase:base<=w.heap.size)
  (lo hi:Nat) (w1:World) (hsep:Sep lo hi v) (hmid:Mid lo hi w1 w) (hhi:hi<=w.heap.size)
  (h:∀ g cap w',IOO w' base (.slice (some ⟨g,0,none⟩) (xss.length+1) cap) (xss++[ys]) (vs++[sl])->Below base w w'->Sep lo hi (.slice (some ⟨g,0,none⟩) (xss.length+1) cap)->Mid lo hi w1 w'->wpList Tryz.prog ops Q rest (a.put o.dst (.slice (some ⟨g,0,none⟩) (xss.length+1) cap)) w') :
  wpList Tryz.prog ops Q (o::rest) a w:=by
 obtain ⟨i0,hi0,hz0,hz1,hz2⟩:=info_parts infoS
 refine wpList_append_lies w hgd s x _ ho base 85 i0 _ 1 24 Tryz.underlying106 hi0 hz0 hz1 hz2 rfl (by decide) v xss.length _ hs (owns_below hown.row hW (Nat.le_refl _))
  ⟨B,0,none⟩ 1 1 [sl] hx rfl (World.news_of_block (cs:=#[sl]) hB) (by simpa using hone) (by decide) (by simp only [maxLen];omega) (by omega) hbase _ rfl ?_
 intro g cap w' h1 h2 h3 _
 exact h g cap w' (hown.grow hW hin hsl h1 h2 h3) ((Below.refl _ _).grown h2 hbase (owns_base hown.row)) (fun r e=>by
  simp [Value.ownBlock] at e;subst e
  rcases h3 with h3 | h3
  ·exact hsep _ h3
  ·omega) (hmid.grown hsep h2 hhi)
end
theorem IOO.store {w W:World} {base g n c:Nat} {xss:List (List Int)} {ys:List Int} {sl:Value} {vs:List Value} (h:IOO w base (.slice (some ⟨g,0,none⟩) n c) xss vs) (hW:Below w.heap.size w W)
  (hin:IO W base sl ys) (hsl:∀ r,sl.ownBlock=some r->w.heap.size<=r) (k:Nat) (hk:k < n) :
  IOO (W.setCell ⟨g,k,none⟩ sl) base (.slice (some ⟨g,0,none⟩) n c) (xss.set k ys) (vs.set k sl):=by
 have hn:=h.cells.1
 subst hn
 have hln:=h.len
 have hgl:=owns_lt h.row g (by simp [Value.ownBlock])
 have h1:=(World.ownsRow.stored (g:=g) (cap:=c) (owns_below h.row hW (Nat.le_refl _)) k sl).1
 have hset:∀ v' zs,(∀ r,v'.ownBlock=some r->r≠g)->IO W base v' zs->IO (W.setCell ⟨g,k,none⟩ sl) base v' zs:=by
  intro v' zs hne hio
  exact hio.grownR' (row:=some g) ⟨rfl,rfl,rfl,by simp [World.setCell],fun b _ hb=>Below.heap_setCell _ _ _ _ (fun e=>hb (by rw [e]))⟩ (fun r hr hr2=>hne r hr (by cases hr2;rfl))
 refine ⟨by rw [List.length_set];exact h1,fun i hi=>?_,fun i hi r hr e=>?_,fun i j hi hj hij r hr e=>?_⟩
 ·rw [List.length_set] at hi
  rw [getD_set' _ _ _ _ _ (by omega),getD_set' _ _ _ _ _ (by omega)]
  split
  ·exact hset _ _ (fun r hr=>by have:=hsl r hr;omega) hin
  ·exact hset _ _ (fun r hr e=>h.apart i hi r hr (by simp [Value.ownBlock,e])) ((h.inner i hi).below hW (Nat.le_refl _))
 ·rw [List.length_set] at hi
  have eg:g=r:=by simpa [Value.ownBlock] using e
  rw [getD_set' _ _ _ _ _ (by omega)] at hr
  split at hr
  ·have:=hsl _ hr;omega
  ·exact h.apart i hi r hr e
 ·rw [List.length_set] at hi hj
  rw [getD_set' _ _ _ _ _ (by omega)] at hr e
  split at hr
  ·have:=hsl _ hr
   split at e
   ·omega
   ·have:=(h.inner_lt hj e).1;omega
  ·split at e
   ·have:=hsl _ e
    have:=(h.inner_lt hi hr).1;omega
   ·exact h.diff i j hi hj hij r hr e
end
section
def Bs (w:World) (B:Nat) (A:Option Addr) (n:Nat):Prop :=
 0 < n->∃ b off,A=some ⟨b,off,none⟩∧b < B∧∀ k,k < n->∃ y:Int,w.cell? ⟨b,off+k,none⟩=some (.int .u8 y)∧0<=y∧y<=255
theorem Bs.keep {w w':World} {B:Nat} {A:Option Addr} {n:Nat} (h:Bs w B A n) (hb:∀ k,k < B->w'.heap[k]?=w.heap[k]?):Bs w' B A n:=by
 intro hn
 obtain ⟨b,off,rfl,hlt,hc⟩:=h hn
 refine ⟨b,off,rfl,hlt,fun k hk=>?_⟩
 obtain ⟨y,h1,h2⟩:=hc k hk
 exact ⟨y,(World.cell?_of_block (w:=w) (hb b hlt)).trans h1,h2⟩
def Rd (w:World) (base r p:Nat):Prop :=
 base<=r∧r < w.heap.size∧∃ A n c,n<=2000∧w.heap[r]?=some (.cells #[.slice A n c,.int .i64 p] 122 (0,0))∧Bs w base A n
theorem grown_set (w:World) (r o:Nat) (u:Value):w.grownBy (w.setCell ⟨r,o,none⟩ u) (some r) :=
 ⟨rfl,rfl,rfl,by simp [World.setCell],fun k _ hne=>Below.heap_setCell _ _ _ _ (fun e=>hne (by rw [e]))⟩
theorem grown_drewN {w w':World} {row:Option Nat} (h:w.grownBy w' row) (n:Nat):w.grownBy (w'.drewN n) row:=⟨h.os,h.tape,h.output,h.size,h.block⟩
theorem grown_below {w w':World} {B:Nat} {row:Option Nat} (h:Below B w w') (hB:w.heap.size<=B):w.grownBy w' row :=
 ⟨h.os,h.tape,h.output,h.size,fun k hk _=>h.block k (by omega)⟩
theorem Rd.grown {w w':World} {base r p:Nat} (h:Rd w base r p) (hg:Below w.heap.size w w'):Rd w' base r p:=by
 obtain ⟨h1,h2,A,n,c,hn,hh,hb⟩:=h
 exact ⟨h1,Nat.lt_of_lt_of_le h2 hg.size,A,n,c,hn,(hg.block r h2).trans hh,hb.keep fun k hk=>hg.block k (by omega)⟩
theorem Rd.set {w:World} {base r p:Nat} {A:Option Addr} {n c:Nat} (h1:base<=r) (h2:r < w.heap.size) (hn:n<=2000) (hh:w.heap[r]?=some (.cells #[.slice A n c,.int .i64 p] 122 (0,0)))
  (hb:Bs w base A n) (nq:Nat):w.grownBy ((w.setCell ⟨r,1,none⟩ (.int .i64 (p+1))).drewN nq) (some r)∧Rd ((w.setCell ⟨r,1,none⟩ (.int .i64 (p+1))).drewN nq) base r (p+1):=by
 refine ⟨grown_drewN (grown_set _ _ _ _) nq,h1,?_,A,n,c,hn,?_,hb.keep fun k hk=>Below.heap_setCell _ _ _ _ (by simp;omega)⟩
 ·show r < (w.setCell _ _).heap.size
  simp [World.setCell];exact h2
 ·show (w.setCell _ _).heap[r]?=_
  simp [World.setCell,Array.getElem?_modify,hh]
end
section
theorem var_same {P:Program} {w w':World} {name:String} {g:Nat} (hg:P.globalNamed name=some g) (h:w'.heap[g]?=w.heap[g]?):w'.var? P name=w.var? P name:=by
 simp only [World.var?,hg,Option.bind_some,h]
def LV1 (w : World) (B : Nat) : Prop := 1 < B ∧ Lib.TabIs Tryz.prog w "internal/strconv.uint64pow10" .u64 Lib.pow10Tab
theorem LV1.below {w w':World} {B:Nat} (h:LV1 w B) (hb:Below B w w'):LV1 w' B:=⟨h.1,by have:=h.2;unfold Lib.TabIs at this ⊢;rw [var_same (by kernel_rfl) (hb.block _ h.1)];exact this⟩
theorem LV1.more {w:World} {B B':Nat} (h:LV1 w B) (hB:B<=B'):LV1 w B':=⟨Nat.lt_of_lt_of_le h.1 hB,h.2⟩
def LV2 (w : World) (B : Nat) : Prop := (2 < B ∧ ∃ tp p, w.var? Tryz.prog "strconv.ErrSyntax" = some #[.iface tp p]) ∧ 3 < B ∧ ∃ tp p, w.var? Tryz.prog "strconv.ErrRange" = some #[.iface tp p]
theorem LV2.below {w w':World} {B:Nat} (h:LV2 w B) (hb:Below B w w'):LV2 w' B :=
 ⟨⟨h.1.1,by rw [var_same (by kernel_rfl) (hb.block _ h.1.1)];exact h.1.2⟩,h.2.1,by rw [var_same (by kernel_rfl) (hb.block _ h.2.1)];exact h.2.2⟩
theorem LV2.more {w:World} {B B':Nat} (h:LV2 w B) (hB:B<=B'):LV2 w B':=⟨⟨Nat.lt_of_lt_of_le h.1.1 hB,h.1.2⟩,Nat.lt_of_lt_of_le h.2.1 hB,h.2.2⟩
def LV3 (w:World) (B:Nat):Prop:=0 < B∧∃ m,w.cell? ⟨0,0,none⟩=some (.int .i64 m)
theorem LV3.below {w w':World} {B:Nat} (h:LV3 w B) (hb:Below B w w'):LV3 w' B:=⟨h.1,by rw [hb.cell (p:=⟨0,0,none⟩) h.1];exact h.2⟩
theorem LV3.more {w:World} {B B':Nat} (h:LV3 w B) (hB:B<=B'):LV3 w B':=⟨Nat.lt_of_lt_of_le h.1 hB,h.2⟩
def LV (w:World) (B:Nat):Prop:=LV1 w B∧LV2 w B∧LV3 w B
theorem LV.below {w w':World} {B:Nat} (h:LV w B) (hb:Below B w w'):LV w' B:=⟨h.1.below hb,h.2.1.below hb,h.2.2.below hb⟩
theorem LV.more {w:World} {B B':Nat} (h:LV w B) (hB:B<=B'):LV w B':=⟨h.1.more hB,h.2.1.more hB,h.2.2.more hB⟩
theorem LV.at {w w':World} (h:LV w w.heap.size) (hb:Below w.heap.size w w'):LV w' w'.heap.size:=(h.below hb).more hb.size
end
section
theorem var_lt {P:Program} {w:World} {name:String} {g:Nat} {cs:Array Value} (hg:P.globalNamed name=some g) (h:w.var? P name=some cs):g < w.heap.size:=by
 simp only [World.var?,hg,Option.bind_some] at h
 cases hh:w.heap[g]? with
 | none=>rw [hh] at h;cases h
 | some o=>exact (Array.getElem?_eq_some_iff.1 hh).1
theorem lv1_of {rest : List (String × DataW Unit)} {W : World} (h : laidMet Tryz.prog (("internal/strconv.uint64pow10", Rows.laid_internal_strconv_uint64pow10) :: rest) W) : LV1 W W.heap.size := by
 have e:(Rows.laid_internal_strconv_uint64pow10:DataW Unit)=Lib.tabData .u64 Lib.pow10Tab:=by kernel_rfl
 rw [e] at h
 have hg : Tryz.prog.globalNamed "internal/strconv.uint64pow10" = some 1 := by kernel_rfl
 have hT : Lib.TabIs Tryz.prog W "internal/strconv.uint64pow10" .u64 Lib.pow10Tab :=
  Lib.tabIs_of_head (t:=221) (e:=176) (n:=20) hg (by kernel_rfl) (by kernel_rfl) (by kernel_rfl) (by kernel_rfl) (by kernel_rfl) h
 exact ⟨var_lt hg hT,hT⟩
theorem rowErr (u : TypeId) (h : Tryz.prog.typeName? 3 u = some "*errors.errorString") : u = 260 := by
 have star : "*" ++ "errors.errorString" = "*errors.errorString" := by decide
 exact typeName_ptr_named (nm := "errors.errorString") (by rw [star]; kernel_rfl) (by kernel_rfl) (by decide) u (by rw [star]; exact h)
theorem lv2_of {r1 r2 : List (String × DataW Unit)} {W : World} (h1 : laidMet Tryz.prog (("strconv.ErrSyntax", Rows.laid_strconv_ErrSyntax) :: r1) W) (h2 : laidMet Tryz.prog (("strconv.ErrRange", Rows.laid_strconv_ErrRange) :: r2) W) : LV2 W W.heap.size := by
 have g1 : Tryz.prog.globalNamed "strconv.ErrSyntax" = some 2 := by kernel_rfl
 have g2 : Tryz.prog.globalNamed "strconv.ErrRange" = some 3 := by kernel_rfl
 obtain ⟨a1,s1,v1,-,-,-⟩:=laid_sentinel (ti:=93) (te:=262) (ts:=9) h1 g1 (by kernel_rfl) Tryz.underlying93 rowErr Tryz.underlying260 Tryz.underlying262 rfl rfl Tryz.underlying9 (by kernel_rfl) (by kernel_rfl)
 obtain ⟨a2,s2,v2,-,-,-⟩:=laid_sentinel (ti:=93) (te:=262) (ts:=9) h2 g2 (by kernel_rfl) Tryz.underlying93 rowErr Tryz.underlying260 Tryz.underlying262 rfl rfl Tryz.underlying9 (by kernel_rfl) (by kernel_rfl)
 exact ⟨⟨var_lt g1 v1,_,_,v1⟩,var_lt g2 v2,_,_,v2⟩
theorem lv3_of {W:World} (h:W.ShapedOpen Tryz.prog):LV3 W W.heap.size:=by
 obtain ⟨m,hm⟩:=cell_of_shapedOpen_int (g:=0) (zero:=#[.int .i64 0]) (t:=3) h (of_decide_eq_true (by kernel_rfl)) (by kernel_rfl) rfl (by kernel_rfl) (by kernel_rfl) Tryz.underlying3
 exact ⟨World.block_lt_of_cell? W ⟨_,0,none⟩ hm,m,hm⟩
end
section
theorem grown_thenB {w w1 w2:World} {r:Nat} (h:w.grownBy w1 (some r)) (hb:Below w.heap.size w1 w2):w.grownBy w2 (some r) :=
 ⟨hb.os.trans h.os,hb.tape.trans h.tape,hb.output.trans h.output,Nat.le_trans h.size hb.size,fun k hk hne=>(hb.block k hk).trans (h.block k hk hne)⟩
theorem CO.grown {w w':World} {base r:Nat} {v:Value} {L:List (Int×Int)} (h:CO w base v L) (hg:w.grownBy w' (some r)) (hr:r < base):CO w' base v L:=by
 refine ⟨h.1,?_⟩
 have hl:=owns_lt h
 rcases h.2 with h2 | ⟨g,cap,cur,rfl,hgb,hh,rest⟩
 ·exact .inl h2
 ·have:=hl g (by simp [Value.ownBlock])
  exact .inr ⟨g,cap,cur,rfl,hgb,by rw [hg.block g (by omega) (by simp;omega)];exact hh,rest⟩
theorem CO.lit {w:World} {base:Nat} (cs:Array Value) (L:List (Int×Int)) (n:Nat) (hb:base<=w.heap.size) (hm:n<=maxLen) (hl:L.length=n) (hs:cs.toList=flatC L) :
  CO (w.alloc (.cells cs 100)) base (.slice (some ⟨w.heap.size,0,none⟩) n n) L:=by
 subst hl
 have e:cs.size=L.length * 2:=by rw [<- Array.length_toList,hs,flatC_len]
 refine ⟨flatC_len L,.inr ⟨w.heap.size,L.length,cs,rfl,hb,heap_alloc_new _ _,Nat.le_refl _,hm,e,?_⟩⟩
 rw [hs,List.take_of_length_le (by rw [flatC_len];omega)]
end
end Go.Proofs.YthpccmkagikhjaaGreatDoor

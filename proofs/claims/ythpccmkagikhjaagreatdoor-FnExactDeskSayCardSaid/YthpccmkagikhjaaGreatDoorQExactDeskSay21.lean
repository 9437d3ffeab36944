import Derived.Test.YthpccmkagikhjaaGreatDoorQExactDeskSay2
import Derived.Test.YthpccmkagikhjaaGreatDoorQExactDeskSay5
import Derived.Test.YthpccmkagikhjaaGreatDoorQExactDeskSay20
import Derived.Test.YthpccmkagikhjaaGreatDoorProg
import Derived.RangeFuncNested
import Derived.Sort.BigQuietIn
import Derived.OwnWalkIn
import Derived.Laws.EntriesVeiled
namespace Go.Proofs.YthpccmkagikhjaaGreatDoor
set_option linter.unusedVariables false
open Go.RowKit
set_option maxRecDepth 4000
set_option maxHeartbeats 8000000
section
attribute [local go_sem ↓] Go.wp_at_zero Go.wp_at_succ
theorem infoD:(Tryz.prog.info? 238).map (fun i=>(i.zero,i.size,i.bytes))=some (some (.agg #[.int .i64 0,.int .i64 0]),2,16):=by kernel_rfl
def DO (w:World) (base:Nat) (v:Value) (B:List (Int×Int)):Prop:=w.ownsRow base 238 2 v B.length (flatC B)
theorem DO.nil (w:World) (base:Nat):DO w base (.slice none 0 0) []:=⟨rfl,.inl ⟨rfl,rfl⟩⟩
theorem DO.below {w w':World} {base B:Nat} {v:Value} {xs:List (Int×Int)} (h:DO w base v xs) (hb:Below B w w') (hB:w.heap.size<=B):DO w' base v xs:=owns_below h hb hB
theorem DO.alloc {w:World} {base:Nat} {v:Value} {xs:List (Int×Int)} (h:DO w base v xs) (o:Obj):DO (w.alloc o) base v xs:=World.ownsRow.alloc h o
theorem DO.drew {w:World} {base:Nat} {v:Value} {xs:List (Int×Int)} (h:DO w base v xs):DO w.drew base v xs:=h
def Ds (w:World) (b0:Nat) (A:Option Addr) (B:List (Int×Int)):Prop :=
 0 < B.length->∃ g,A=some ⟨g,0,none⟩∧g < b0∧∀ k,k < B.length->w.cell? ⟨g,k * 2,none⟩=some (.int .i64 (X B k))∧w.cell? ⟨g,k * 2+1,none⟩=some (.int .i64 (Y B k))
theorem Ds.below {w w':World} {b0 b1:Nat} {A:Option Addr} {B:List (Int×Int)} (h:Ds w b0 A B) (hb:Below b1 w w') (h1:b0<=b1):Ds w' b0 A B:=by
 intro hn
 obtain ⟨g,rfl,hlt,hc⟩:=h hn
 exact ⟨g,rfl,hlt,fun k hk=>⟨(hb.cell (p:=⟨g,_,none⟩) (by show g < _;omega)).trans (hc k hk).1,(hb.cell (p:=⟨g,_,none⟩) (by show g < _;omega)).trans (hc k hk).2⟩⟩
theorem DO.form {w:World} {base:Nat} {v:Value} {B:List (Int×Int)} (h:DO w base v B):∃ A c,v=.slice A B.length c∧Ds w w.heap.size A B:=by
 have hl:=owns_lt h
 rcases h.2 with ⟨rfl,h0⟩ | ⟨g,cap,cur,rfl,hg,hh,h1,h2,h3,h4⟩
 ·exact ⟨none,0,by rw [h0],fun hp=>by omega⟩
 ·refine ⟨_,cap,rfl,fun hp=>⟨g,rfl,hl g (by simp [Value.ownBlock]),fun k hk=>?_⟩⟩
  have:=flatC_at B k hk
  exact ⟨(World.ownsRow.cellAt h (k * 2) (by omega)).trans this.1,(World.ownsRow.cellAt h (k * 2+1) (by omega)).trans this.2⟩
def D1 (w:World) (g:Nat) (m:Int×Int):Prop:=∃ base,DO w base (.slice (some ⟨g,0,none⟩) 1 1) [m]
theorem D1.new {w:World} {g:Nat} {a b:Int} (h:w.heap[g]?=some (.cells #[.int .i64 a,.int .i64 b] 238 (0,0))):D1 w g (a,b) :=
 ⟨0,rfl,.inr ⟨g,1,#[.int .i64 a,.int .i64 b],rfl,Nat.zero_le _,h,Nat.le_refl _,by simp [maxLen],rfl,rfl⟩⟩
theorem D1.cells {w:World} {g:Nat} {m:Int×Int} (h:D1 w g m):g < w.heap.size∧w.cell? ⟨g,0,none⟩=some (.int .i64 m.1)∧w.cell? ⟨g,1,none⟩=some (.int .i64 m.2)∧∀ j,w.frozen? ⟨g,j,none⟩=false:=by
 obtain ⟨base,h⟩:=h
 exact ⟨owns_lt h g (by simp [Value.ownBlock]),World.ownsRow.cellAt h 0 (by simp),World.ownsRow.cellAt h 1 (by simp),fun j=>World.ownsRow.frozenAt h j⟩
theorem D1.other {w:World} {g:Nat} {m:Int×Int} (h:D1 w g m) {b:Nat} (hne:g≠b) (o:Nat) (u:Value):D1 (w.setCell ⟨b,o,none⟩ u) g m:=by
 obtain ⟨base,h0,h⟩:=h
 refine ⟨base,h0,?_⟩
 rcases h with ⟨h1,_⟩ | ⟨g',cap,cur,h1,hg,hh,rest⟩
 ·cases h1
 ·refine .inr ⟨g',cap,cur,h1,hg,?_,rest⟩
  have e:g'=g:=by injection h1 with e1 _ _;injection e1 with e1;injection e1 with e1 _ _;exact e1.symm
  subst e
  rw [Below.heap_setCell _ _ _ _ hne];exact hh
theorem D1.below {w w':World} {g:Nat} {m:Int×Int} (h:D1 w g m) (hb:Below w.heap.size w w'):D1 w' g m:=by
 obtain ⟨base,h⟩:=h
 exact ⟨base,owns_below h hb (Nat.le_refl _)⟩
theorem D1.store {w:World} {g:Nat} {m:Int×Int} (h:D1 w g m) (a b:Int):D1 ((w.setCell ⟨g,0,none⟩ (.int .i64 a)).setCell ⟨g,1,none⟩ (.int .i64 b)) g (a,b):=by
 obtain ⟨base,h⟩:=h
 have h1:=(World.ownsRow.stored (g:=g) (cap:=1) h 0 (.int .i64 a)).1
 have h2:=(World.ownsRow.stored (g:=g) (cap:=1) h1 1 (.int .i64 b)).1
 exact ⟨base,h2⟩
section
variable {w:World}
theorem app_D {ops:Array Oper} {rest:List Oper} {o:Oper} {a:Act} {Q:Exit->Act->World->Prop} (hgd:o.guard=none) (s x:Operand)
  (ho:o.op=.call { callee:=.builtin .append,args:=#[s,x],argTypes:=#[234,234] })
  (base:Nat) (v:Value) (L:List (Int×Int)) (p q:Int) (B:Nat) (hs:a.eval s=v) (hown:DO w base v L) (hx:a.eval x=.slice (some ⟨B,0,none⟩) 1 1)
  (hB:w.heap[B]?=some (.cells #[.int .i64 p,.int .i64 q] 238 (0,0))) (hlen:L.length<=1000000000000) (hbase:base<=w.heap.size)
  (h:∀ g cap w',DO w' base (.slice (some ⟨g,0,none⟩) (L.length+1) cap) (L++[(p,q)])->Below base w w'->wpList Tryz.prog ops Q rest (a.put o.dst (.slice (some ⟨g,0,none⟩) (L.length+1) cap)) w') :
  wpList Tryz.prog ops Q (o::rest) a w:=by
 obtain ⟨i0,hi,hz0,hz1,hz2⟩:=info_parts infoD
 refine wpList_append_lies w hgd s x _ ho base 238 i0 _ 2 16 Tryz.underlying234 hi hz0 hz1 hz2 rfl (by decide) v L.length _ hs hown
  ⟨B,0,none⟩ 1 1 [.int .i64 p,.int .i64 q] hx rfl (World.news_of_block (cs:=#[.int .i64 p,.int .i64 q]) hB) (by simp [Value.oneCell']) (by decide) (by simp only [maxLen];omega) (by omega) hbase _ rfl ?_
 intro g cap w' h1 h2 _ _
 exact h g cap w' (by simpa [DO,flatC_snoc] using h1) ((Below.refl _ _).grown h2 hbase (owns_base hown))
end
def cands (lf:List Int):Nat->List (Int×Int)
 | 0=>[]
 | n+1=>if 0 < Z lf n then cands lf n++[((n:Int),Z lf n)] else cands lf n
theorem cands_len (lf:List Int):∀ n,(cands lf n).length<=n:=by
 intro n
 induction n with
 | zero=>exact Nat.le_refl _
 | succ n ih =>
  simp only [cands]
  split
  ·rw [List.length_append,List.length_singleton];omega
  ·omega
theorem c_waiting (lf:List Int) (G:Option Addr) (g n:Nat) (w:World) (hG:Is w w.heap.size G lf) (hn:n<=lf.length) (hg:lf.length<=g) (hl:lf.length<=1000000) :
  Calls Tryz.prog 237 #[.slice G lf.length g,.int .i64 n] w fun e w'=>∃ v,e=.returned v∧DO w' w.heap.size v (cands lf n)∧Below w.heap.size w w':=by
 go_enter Tryz.func237,Tryz.ntmps237
 have hn0:(0:Int)<=(n:Int):=by omega
 have hn1:n<=g:=by omega
 go_wp2_with fail
 go_loopw [5,12] (fun o i wr=>∃ k:Nat,k<=n∧i=.int .i64 k∧DO wr w.heap.size o (cands lf k)∧Below w.heap.size w wr) (fun _ i _=>n - (intOf i).toNat)
 case atStart=>exact ⟨0,by omega,rfl,DO.nil _ _,Below.refl _ _⟩
 case round =>
  obtain ⟨k,hk,rfl,hown,hb⟩:=hrel
  have hsz:=hb.size
  by_cases hlt:k < n
  ·obtain ⟨gb,go,rfl,hgb,hgc⟩:=hG (by omega)
   have c0:=(hb.cell (p:=⟨gb,go+k,none⟩) hgb).trans (hgc k (by omega))
   have q5:(cands lf k).length<=1000000000000:=by have:=cands_len lf k;omega
   clear hgc
   by_cases hz:0 < Z lf k
   ·have E:=Lib.hid (show cands lf (k+1)=cands lf k++[((k:Int),Z lf k)] by simp only [cands];rw [if_pos hz])
    go_wp2_with (refine app_D ?_ (.tmp 19) (.tmp 23) ?_ w.heap.size u5 (cands lf k) (k:Int) (Z lf k) wr.heap.size ?_ ?_ ?_ ?_ ?_ ?_ ?_;rfl;rfl;rfl;exact (hown.alloc _);rfl;exact (heap_alloc_new _ _);exact q5;exact (Nat.le_trans hsz (by simp));intro g7 cap w7 hown7 hb7)
    go_roundw
    case rel =>
     refine ⟨k+1,by omega,by go_num,by rw [E.out];exact hown7,?_⟩
     refine Below.trans ?_ hb7
     (repeat (first | exact hb | exact Below.refl _ _ | (with_reducible refine Below.drew ?_) | (with_reducible refine Below.drewN ?_ _) | (with_reducible refine Below.alloc ?_ ?_ _) | (with_reducible refine Below.setCell ?_ ?_ _) | (show _<=_;focus (first | omega | (simp;done) | (simp;omega)))))
    case measure=>simp [intOf];omega
   ·have E:=Lib.hid (show cands lf (k+1)=cands lf k by simp only [cands];rw [if_neg hz])
    go_wp2_with fail
    go_roundw
    case rel=>exact ⟨k+1,by omega,by go_num,by rw [E.out];exact hown,hb⟩
    case measure=>simp [intOf];omega
  ·have hlf:¬ ((k:Int) < (n:Int)):=by omega
   obtain rfl:k=n:=by omega
   go_wp2_with fail
   go_ret
   exact ⟨_,rfl,hown,hb⟩
def prefV (r:Int) (a b:Int×Int):Int:=if r=0 then a.1 - b.1 else if r=1 then b.1 - a.1 else if r=2 then a.2 - b.2 else b.2 - a.2
def smallC (a:Int×Int):Prop:=-1000<=a.1∧a.1<=1000∧-1000<=a.2∧a.2<=1000
theorem c_pref0 (a b:Int×Int) (w:World) (ha:smallC a) (hb:smallC b):Calls Tryz.prog 239 #[.agg #[.int .i64 a.1,.int .i64 a.2],.agg #[.int .i64 b.1,.int .i64 b.2]] w fun e w'=>e=.returned (.int .i64 (prefV 0 a b))∧Below w.heap.size w w':=by
 obtain ⟨a1,a2,a3,a4⟩:=ha
 obtain ⟨b1,b2,b3,b4⟩:=hb
 obtain ⟨p,q⟩:=a
 obtain ⟨s,t⟩:=b
 go_enter Tryz.func239,Tryz.ntmps239
 go_wp2_with fail
 go_ret
 exact ⟨rfl,by (repeat (first | exact rfl | exact Below.refl _ _ | (with_reducible refine Below.drew ?_) | (with_reducible refine Below.drewN ?_ _) | (with_reducible refine Below.alloc ?_ ?_ _) | (with_reducible refine Below.setCell ?_ ?_ _) | (show _<=_;focus (first | omega | (simp;done) | (simp;omega)))))⟩
theorem c_pref1 (a b:Int×Int) (w:World) (ha:smallC a) (hb:smallC b):Calls Tryz.prog 240 #[.agg #[.int .i64 a.1,.int .i64 a.2],.agg #[.int .i64 b.1,.int .i64 b.2]] w fun e w'=>e=.returned (.int .i64 (prefV 1 a b))∧Below w.heap.size w w':=by
 obtain ⟨a1,a2,a3,a4⟩:=ha
 obtain ⟨b1,b2,b3,b4⟩:=hb
 obtain ⟨p,q⟩:=a
 obtain ⟨s,t⟩:=b
 go_enter Tryz.func240,Tryz.ntmps240
 go_wp2_with fail
 go_ret
 exact ⟨rfl,by (repeat (first | exact rfl | exact Below.refl _ _ | (with_reducible refine Below.drew ?_) | (with_reducible refine Below.drewN ?_ _) | (with_reducible refine Below.alloc ?_ ?_ _) | (with_reducible refine Below.setCell ?_ ?_ _) | (show _<=_;focus (first | omega | (simp;done) | (simp;omega)))))⟩
theorem c_pref2 (a b:Int×Int) (w:World) (ha:smallC a) (hb:smallC b):Calls Tryz.prog 241 #[.agg #[.int .i64 a.1,.int .i64 a.2],.agg #[.int .i64 b.1,.int .i64 b.2]] w fun e w'=>e=.returned (.int .i64 (prefV 2 a b))∧Below w.heap.size w w':=by
 obtain ⟨a1,a2,a3,a4⟩:=ha
 obtain ⟨b1,b2,b3,b4⟩:=hb
 obtain ⟨p,q⟩:=a
 obtain ⟨s,t⟩:=b
 go_enter Tryz.func241,Tryz.ntmps241
 go_wp2_with fail
 go_ret
 exact ⟨rfl,by (repeat (first | exact rfl | exact Below.refl _ _ | (with_reducible refine Below.drew ?_) | (with_reducible refine Below.drewN ?_ _) | (with_reducible refine Below.alloc ?_ ?_ _) | (with_reducible refine Below.setCell ?_ ?_ _) | (show _<=_;focus (first | omega | (simp;done) | (simp;omega)))))⟩
theorem c_pref3 (a b:Int×Int) (w:World) (ha:smallC a) (hb:smallC b):Calls Tryz.prog 242 #[.agg #[.int .i64 a.1,.int .i64 a.2],.agg #[.int .i64 b.1,.int .i64 b.2]] w fun e w'=>e=.returned (.int .i64 (prefV 3 a b))∧Below w.heap.size w w':=by
 obtain ⟨a1,a2,a3,a4⟩:=ha
 obtain ⟨b1,b2,b3,b4⟩:=hb
 obtain ⟨p,q⟩:=a
 obtain ⟨s,t⟩:=b
 go_enter Tryz.func242,Tryz.ntmps242
 go_wp2_with fail
 go_ret
 exact ⟨rfl,by (repeat (first | exact rfl | exact Below.refl _ _ | (with_reducible refine Below.drew ?_) | (with_reducible refine Below.drewN ?_ _) | (with_reducible refine Below.alloc ?_ ?_ _) | (with_reducible refine Below.setCell ?_ ?_ _) | (show _<=_;focus (first | omega | (simp;done) | (simp;omega)))))⟩
def minC (r:Int) (B:List (Int×Int)):Nat->Int×Int
 | 0=>(X B 0,Y B 0)
 | k+1=>if prefV r (X B (k+1),Y B (k+1)) (minC r B k) < 0 then (X B (k+1),Y B (k+1)) else minC r B k
def smallB (B:List (Int×Int)):Prop:=∀ k,k < B.length->smallC (X B k,Y B k)
theorem minC_small {r:Int} {B:List (Int×Int)} (h:smallB B):∀ k,k < B.length->smallC (minC r B k):=by
 intro k
 induction k with
 | zero=>intro h0;exact h 0 h0
 | succ k ih =>
  intro hk
  simp only [minC]
  split
  ·exact h _ hk
  ·exact ih (by omega)
theorem c_min (r:Int) (f:Nat) (hf:(r=0∧f=239)∨(r=1∧f=240)∨(r=2∧f=241)∨(r=3∧f=242)) (B:List (Int×Int)) (D:Option Addr) (c:Nat) (w:World) (hD:Ds w w.heap.size D B) (h0:0 < B.length) (hl:B.length<=1000000) (hs:smallB B) :
  Calls Tryz.prog 258 #[.slice D B.length c,.func (.func f) #[] #[]] w fun e w'=>e=.returned (.agg #[.int .i64 (minC r B (B.length - 1)).1,.int .i64 (minC r B (B.length - 1)).2])∧Below w.heap.size w w':=by
 have HP:=Lib.hid (show ∀ (x y:Int) (b:Int×Int) (w:World),smallC (x,y)->smallC b->Calls Tryz.prog f #[.agg #[.int .i64 x,.int .i64 y],.agg #[.int .i64 b.1,.int .i64 b.2]] w fun e w'=>e=.returned (.int .i64 (prefV r (x,y) b))∧Below w.heap.size w w' from by
  intro x y b w
  rcases hf with ⟨rfl,rfl⟩ | ⟨rfl,rfl⟩ | ⟨rfl,rfl⟩ | ⟨rfl,rfl⟩
  ·exact c_pref0 (x,y) b w
  ·exact c_pref1 (x,y) b w
  ·exact c_pref2 (x,y) b w
  ·exact c_pref3 (x,y) b w)
 have HM:=Lib.hid (@minC_small r B hs)
 have HS:=Lib.hid hs
 obtain ⟨g,rfl,hgl,hc⟩:=hD h0
 have c1:=(hc 0 h0).1
 have c2:=(hc 0 h0).2
 rw [Nat.zero_mul] at c1 c2
 have HC:=Lib.hid hc
 have h0':(0:Int) < (B.length:Int):=by omega
 clear hc hs
 have bm:D1 ((w.alloc (.cells #[.int .i64 0,.int .i64 0] 238)).alloc (.cells #[.int .i64 (X B 0),.int .i64 (Y B 0)] 238)) (w.heap.size+1) (minC r B 0):=D1.new (heap_new2' _ _ _)
 have br:D1 ((w.alloc (.cells #[.int .i64 0,.int .i64 0] 238)).alloc (.cells #[.int .i64 (X B 0),.int .i64 (Y B 0)] 238)) w.heap.size (0,0):=(D1.new (heap_alloc_new _ _)).below (by (repeat (first | exact rfl | exact Below.refl _ _ | (with_reducible refine Below.drew ?_) | (with_reducible refine Below.drewN ?_ _) | (with_reducible refine Below.alloc ?_ ?_ _) | (with_reducible refine Below.setCell ?_ ?_ _) | (show _<=_;focus (first | omega | (simp;done) | (simp;omega))))))
 have hb0:Below w.heap.size w ((w.alloc (.cells #[.int .i64 0,.int .i64 0] 238)).alloc (.cells #[.int .i64 (X B 0),.int .i64 (Y B 0)] 238)):=by (repeat (first | exact rfl | exact Below.refl _ _ | (with_reducible refine Below.drew ?_) | (with_reducible refine Below.drewN ?_ _) | (with_reducible refine Below.alloc ?_ ?_ _) | (with_reducible refine Below.setCell ?_ ?_ _) | (show _<=_;focus (first | omega | (simp;done) | (simp;omega)))))
 rcases hf with ⟨-,rfl⟩ | ⟨-,rfl⟩ | ⟨-,rfl⟩ | ⟨-,rfl⟩
 all_goals
  go_enter Tryz.func258,Tryz.ntmps258
  go_wp2_with fail
  go_loopw [6] (fun i wr=>∃ k:Nat,1<=k∧k<=B.length∧i=.int .i64 k∧D1 wr (w.heap.size+1) (minC r B (k - 1))∧D1 wr w.heap.size (0,0)∧Below w.heap.size w wr) (fun i _=>B.length - (intOf i).toNat)
  case atStart=>exact ⟨1,by omega,by omega,rfl,bm,br,hb0⟩
  case round =>
   obtain ⟨k,hk1,hk,rfl,dm,dr,hb⟩:=hrel
   have hsz:=hb.size
   obtain ⟨m0,m1,m2,mf⟩:=dm.cells
   by_cases hlt:k < B.length
   ·have a1:=(hb.cell (p:=⟨g,k * 2,none⟩) hgl).trans (HC.out k hlt).1
    have a2:=(hb.cell (p:=⟨g,k * 2+1,none⟩) hgl).trans (HC.out k hlt).2
    have e1:=WB.cell (B:=wr.heap.size) (show g < wr.heap.size by omega) a1
    have e2:=WB.cell (B:=wr.heap.size) (show g < wr.heap.size by omega) a2
    have e3:=WB.cell (B:=wr.heap.size) m0 m1
    have e4:=WB.cell (B:=wr.heap.size) m0 m2
    have p1:(0:Int)<=(k:Int):=by omega
    have p2:(k:Int) < (B.length:Int):=by omega
    have HK:=Lib.hid (fun W=>HP.out (X B k) (Y B k) (minC r B (k - 1)) W (HS.out k hlt) (HM.out (k - 1) (by omega)))
    have hkk:k - 1+1=k:=by omega
    have HE:=Lib.hid (show minC r B (k - 1+1)=if prefV r (X B (k - 1+1),Y B (k - 1+1)) (minC r B (k - 1)) < 0 then (X B (k - 1+1),Y B (k - 1+1)) else minC r B (k - 1) from rfl)
    rw [hkk] at HE
    generalize minC r B (k - 1)=m at *
    by_cases hv:prefV r (X B k,Y B k) m < 0
    ·have dv:decide (prefV r (X B k,Y B k) m < 0)=true:=decide_eq_true hv
     have HN:=Lib.hid (HE.out.trans (if_pos hv))
     have DM:=Lib.hid dm
     have DR:=Lib.hid dr
     clear hv HE dm dr
     go_wp2_with fail
     refine wp_region_wb wr.heap.size (by kernel_rfl) (by kernel_rfl) ?_
     repeat (go_big_quiet_step (first | (go_at_call 239;exact Calls.inB (Nat.le_refl _) (HK.out _)) | (go_at_call 240;exact Calls.inB (Nat.le_refl _) (HK.out _)) | (go_at_call 241;exact Calls.inB (Nat.le_refl _) (HK.out _)) | (go_at_call 242;exact Calls.inB (Nat.le_refl _) (HK.out _))))
     refine wpQuiet_nil ?_
     rintro w5 ⟨⟨_,hb5⟩,rfl⟩
     have dm5:=DM.out.below hb5
     have dr5:=DR.out.below hb5
     obtain ⟨n0,n1,n2,nf⟩:=dm5.cells
     have a3:=(hb5.cell (p:=⟨g,k * 2,none⟩) (show g < wr.heap.size by omega)).trans a1
     have a4:=(hb5.cell (p:=⟨g,k * 2+1,none⟩) (show g < wr.heap.size by omega)).trans a2
     have hb6:=hb.trans (hb5.mono hsz)
     clear hb5 e1 e2 e3 e4 a1 a2 dv DM DR HK
     go_wp2_with fail
     go_roundw
     case rel =>
      refine ⟨k+1,by omega,by omega,by go_num,?_,?_,?_⟩
      ·rw [show k+1 - 1=k by omega,HN.out];exact dm5.store _ _
      ·exact (dr5.other (by omega) _ _).other (by omega) _ _
      ·exact (hb6.setCell (p:=⟨w.heap.size+1,0,none⟩) (by simp) _).setCell (p:=⟨w.heap.size+1,1,none⟩) (by simp) _
     case measure=>simp [intOf];omega
    ·have dv:decide (prefV r (X B k,Y B k) m < 0)=false:=decide_eq_false hv
     have HN:=Lib.hid (HE.out.trans (if_neg hv))
     have DM:=Lib.hid dm
     have DR:=Lib.hid dr
     clear hv HE dm dr
     go_wp2_with fail
     refine wp_region_wb wr.heap.size (by kernel_rfl) (by kernel_rfl) ?_
     repeat (go_big_quiet_step (first | (go_at_call 239;exact Calls.inB (Nat.le_refl _) (HK.out _)) | (go_at_call 240;exact Calls.inB (Nat.le_refl _) (HK.out _)) | (go_at_call 241;exact Calls.inB (Nat.le_refl _) (HK.out _)) | (go_at_call 242;exact Calls.inB (Nat.le_refl _) (HK.out _))))
     refine wpQuiet_nil ?_
     rintro w5 ⟨⟨_,hb5⟩,rfl⟩
     have dm5:=DM.out.below hb5
     have dr5:=DR.out.below hb5
     have hb6:=hb.trans (hb5.mono hsz)
     clear hb5 e1 e2 e3 e4 a1 a2 dv DM DR HK
     go_wp2_with fail
     go_roundw
     case rel=>exact ⟨k+1,by omega,by omega,by go_num,by rw [show k+1 - 1=k by omega,HN.out];exact dm5,dr5,hb6⟩
     case measure=>simp [intOf];omega
   ·have hlf:¬ ((k:Int) < (B.length:Int)):=by omega
    obtain rfl:k=B.length:=by omega
    obtain ⟨r0,r1,r2,rf⟩:=dr.cells
    have ds:=dr.store (minC r B (B.length - 1)).1 (minC r B (B.length - 1)).2
    obtain ⟨-,s1,s2,-⟩:=ds.cells
    go_wp2_with fail
    refine bodyPost_ret (v:=.agg #[.int .i64 (minC r B (B.length - 1)).1,.int .i64 (minC r B (B.length - 1)).2]) (by simp [results,Tryz.f258,go_sem,s1,s2]) rfl ?_
    exact ⟨rfl,(hb.setCell (p:=⟨w.heap.size,0,none⟩) (by simp) _).setCell (p:=⟨w.heap.size,1,none⟩) (by simp) _⟩
end
section
def AbidesW {β:Type} (B:Nat) (Fr:World->Nat->Prop) (J:β->World->Prop):Prop :=
 ∀ s W W' row,J s W->W.grownBy W' row->(∀ r,row=some r->B<=r∧∃ o:Obj,W.heap[r]?=some o∧o.isCells=true∧¬ Fr W r)->J s W'
def OwnW {β:Type} (B:Nat) (Fr:World->Nat->Prop) (I:β->World->Prop):Prop :=
 ∀ s W W' row,I s W->W.grownBy W' row->(∀ r,row=some r->B<=r∧∃ o:Obj,W.heap[r]?=some o∧(o.isCells=true->¬ Fr W r))->I s W'
theorem OwnW.put {β:Type} {B:Nat} {Fr:World->Nat->Prop} {I:β->World->Prop} (h:OwnW B Fr I) {s:β} {W:World} {l:Nat} {o:Obj} (o':Obj) (hs:I s W) (hB:B<=l) (hl:W.heap[l]?=some o) (ho:o.isCells=false):I s (W.putObj l o') :=
 h s W _ (some l) hs (grownBy_putObj' W l o') (fun r e=>by cases e;exact ⟨hB,o,hl,fun hc=>by rw [ho] at hc;cases hc⟩)
theorem OwnW.new {β:Type} {B:Nat} {Fr:World->Nat->Prop} {I:β->World->Prop} (h:OwnW B Fr I) {s:β} {W:World} (o:Obj) (hs:I s W):I s (W.alloc o) :=
 h s W _ none hs (World.grownBy_alloc W o none) (fun r e=>by cases e)
def SeqNx {α:Type} (Fr:World->Nat->Prop) (F:Fence) (n:Nat) (P:Program) (g:Nat) (lb:Array Value) (encs:α->Array Value) (Kp:World->World->Prop) (Nx:List α->α->Prop) (S Sp:List α->Prop) (w:World):Prop :=
 ∀ (l:Nat) (J Jx:List α->World->Prop) (W:World),Below w.heap.size w W->AbidesW W.heap.size Fr J ->
  (∀ pre x W1,J pre W1->Nx pre x->YieldAt F (n - 1) P l (encs x) W1 fun e W'=>(e=.returned (.bool true)∧J (pre++[x]) W'∧Kp W1 W')∨(e=.returned (.bool false)∧Jx (pre++[x]) W')) ->
  J [] W ->
  CallsIn F n P g (#[.func (.yield l) #[] #[]]++lb) W fun e W'=>(∃ v,e=.returned v)∧((∃ xs,S xs∧J xs W')∨(∃ pre,Sp pre∧Jx pre W'))
theorem rangeFunc_nx {F:Fence} {n:Nat} {P:Program} {Fr:World->Nat->Prop} {α:Type} {g:Operand} {ps:Array Tmp} {assign body:Code} {Q:Exit->Act->World->Prop} {a:Act} {w:World}
  (hro:F.round=none) (h1:1<=n) {gf:Nat} {lb:Array Value} (hg:a.eval g=.func (.func gf) #[] lb) (hFg:F.fn gf) (eg:∀ args w,(callFunc gf args).run P w=.ok (.enter gf args) w)
  {encs:α->Array Value} {Kp:World->World->Prop} {Nx:List α->α->Prop} {S Sp:List α->Prop} {w0:World} (hseq:SeqNx Fr F (n - 1) P gf lb encs Kp Nx S Sp w0)
  (hKt:∀ {A B C:World},Kp A B->Kp B C->Kp A C) (hKb:∀ (W:World) (l:Nat) (o o':Obj),w.heap.size<=l->W.heap[l]?=some o->o.isCells=false->o.isWalk=false->Kp W (W.putObj l o')) (hb0:Below w0.heap.size w0 w) (hps:∀ x,(encs x).size=ps.size)
  (I:List α->World->Prop) (Ix:Code->List α->World->Prop) (hI:OwnW w.heap.size Fr I) (hIx:∀ c,OwnFrom w.heap.size (Ix c)) (h0:I [] w) (a₁:α->Act)
  (hassign:∀ (l:Nat) (x:α) (W:World) (K:Act->World->Prop),K (a₁ x) W ->
    assign.wpIn (F.inRound l) (n - 1 - 1) P (Exit.then K (fun _ _ _=>False)) { tmps:=(ps.zip (encs x)).foldl (fun t (p,v)=>t.setIfInBounds p v) a.tmps,defers:=[] } W)
  (hbody:∀ (l:Nat) (pre:List α) (x:α) (W:World),I pre W->Nx pre x->body.wpIn (F.inRound l) (n - 1 - 1) P (ownPostG w.heap.size Kp I Ix (pre++[x]) W) (a₁ x) W)
  (hdone:∀ (D:Nat) (xs:List α) (W:World),w.heap.size<=D->S xs->I xs W->W.heap[D]?=some (.deferred (some []))->Q .normal { a with defers:={ target:=.collected D,args:=#[] }::a.defers } W)
  (hstop:∀ (D:Nat) (c:Code) (pre:List α) (W:World),w.heap.size<=D->Sp pre->Ix c pre W->W.heap[D]?=some (.deferred (some []))->c.wpIn F n P Q { a with defers:={ target:=.collected D,args:=#[] }::a.defers } W) :
  (Code.rangeFunc g ps assign body).wpIn F n P Q a w:=by
 refine wpIn_rangeFunc fun fn hfn=>?_
 rw [hro]
 obtain ⟨rec,hrec⟩:∃ rec:LoopState->Option Code->Loop,rec=fun st pe=>{ state:=st,pending:=pe,fn,tmps:=a.tmps,params:=ps,assign,body,defers:=w.heap.size }:=⟨_,rfl⟩
 have sD:w.heap.size < (w.alloc (.deferred (some []))).heap.size:=by simp
 obtain ⟨W1,hW1⟩:∃ W1,(w.alloc (.deferred (some []))).alloc (.loop (rec .ready none))=W1:=⟨_,rfl⟩
 have hz1:W1.heap.size=w.heap.size+2:=by rw [<- hW1];simp
 have hL1:W1.heap[w.heap.size+1]?=some (.loop (rec .ready none)):=by
  have:=World.alloc_heap_new (w.alloc (.deferred (some []))) (.loop (rec .ready none))
  rw [World.size_alloc,hW1] at this
  exact this
 have hD1:W1.heap[w.heap.size]?=some (.deferred (some [])):=by
  rw [<- hW1];exact (Below.heap_alloc _ _ _ sD).trans (World.alloc_heap_new w _)
 have hI1:I [] W1:=by rw [<- hW1];exact hI.new _ (hI.new _ h0)
 have hb1:Below w0.heap.size w0 W1:=by
  rw [<- hW1];exact hb0.trans ((((Below.refl _ w).alloc (Nat.le_refl _) _).alloc (by simp) _).mono hb0.size)
 have kept:∀ {A B:World} {row:Option Nat} {k:Nat} {o:Obj},A.grownBy B row->(∀ r,row=some r->∃ o:Obj,A.heap[r]?=some o∧o.isCells=true)->A.heap[k]?=some o->o.isCells=false->B.heap[k]?=some o:=by
  intro A B row k o hg hr hk ho
  refine (hg.block k (Array.getElem?_eq_some_iff.1 hk).1 fun e=>?_).trans hk
  obtain ⟨o2,ho2,hc⟩:=hr k e.symm
  rw [hk] at ho2;cases ho2
  rw [ho] at hc;cases hc
 refine ⟨w.heap.size+1,[{ target:=.collected w.heap.size,args:=#[] }],W1,{ target:=.fn (.func gf) lb,args:=#[.func (.yield (w.heap.size+1)) #[] #[]] },W1,gf,
  #[.func (.yield (w.heap.size+1)) #[] #[]]++lb,W1,?_,?_,?_,?_,fun _=>h1,?_⟩
 ·rw [<- hW1,hrec];exact run_enterLoop_outer _ _ _ _ _
 ·simp only [resolve,hg]
  simp [go_sem]
 ·intro f' hf';simp [Target.leads] at hf';subst hf';exact hFg
 ·simp [invoke,go_sem,eg]
 ·refine (hseq (w.heap.size+1) (fun pre W=>I pre W∧W.heap[w.heap.size+1]?=some (.loop (rec .ready none))∧W.heap[w.heap.size]?=some (.deferred (some [])))
   (fun pre W=>∃ c,Ix c pre W∧W.heap[w.heap.size+1]?=some (.loop (rec .done (some c)))∧W.heap[w.heap.size]?=some (.deferred (some []))) W1 hb1 ?ab ?round ⟨hI1,hL1,hD1⟩).mono ?behind
  case ab =>
   rintro s A B row ⟨h2,h3,h4⟩ hg' hr
   have hc:∀ r,row=some r->∃ o:Obj,A.heap[r]?=some o∧o.isCells=true:=fun r e=>by obtain ⟨_,o,ho,hc,_⟩:=hr r e;exact ⟨o,ho,hc⟩
   exact ⟨hI s A B row h2 hg' (fun r e=>by obtain ⟨hB,o,ho,_,hf⟩:=hr r e;exact ⟨by omega,o,ho,fun _=>hf⟩),kept hg' hc h3 rfl,kept hg' hc h4 rfl⟩
  case round =>
   rintro pre x W ⟨hi,hl,hk⟩ hnx
   have hlt:w.heap.size+1 < W.heap.size:=(Array.getElem?_eq_some_iff.1 hl).1
   have hy:=run_yield (P:=P) (args:=encs x) hl (by rw [hrec];exact hps x)
   rw [hrec] at hy
   refine ⟨fn,_,assign,body,hy,roundIn_of_wpIn hfn (hassign _ x W _ ?_)⟩
   clear hy
   refine ⟨_,run_beginRound hl (by rw [hrec]),?_⟩
   have hl2:(W.putObj (w.heap.size+1) (.loop { rec .ready none with state:=.busy })).heap[w.heap.size+1]?=some (.loop { rec .ready none with state:=.busy }):=World.putObj_heap_same hlt
   have hk2:(W.putObj (w.heap.size+1) (.loop { rec .ready none with state:=.busy })).heap[w.heap.size]?=some (.deferred (some [])):=(World.putObj_heap_other (by omega)).trans hk
   have hw2:Kp W (W.putObj (w.heap.size+1) (.loop { rec .ready none with state:=.busy })):=hKb _ _ _ _ (by omega) hl rfl rfl
   refine wpIn_mono (hbody _ pre x _ (hI.put _ hi (by omega) hl rfl) hnx) ?_
   have fin:∀ (jump:Option Code) (W3:World),KeepsFrom w.heap.size (W.putObj (w.heap.size+1) (.loop { rec .ready none with state:=.busy })) W3 ->
     (Instr.endRound (w.heap.size+1) jump).run P W3=.ok (.bool jump.isNone) (W3.putObj (w.heap.size+1) (.loop (rec (if jump.isNone then .ready else .done) jump))) ∧
     W3.heap[w.heap.size+1]?=some (.loop { rec .ready none with state:=.busy }) ∧
     (W3.putObj (w.heap.size+1) (.loop (rec (if jump.isNone then .ready else .done) jump))).heap[w.heap.size+1]?=some (.loop (rec (if jump.isNone then .ready else .done) jump)) ∧
     (W3.putObj (w.heap.size+1) (.loop (rec (if jump.isNone then .ready else .done) jump))).heap[w.heap.size]?=some (.deferred (some [])):=fun jump W3 hk3=>by
    have hl3:=hk3.same _ _ (by omega) hl2 rfl
    have hr:=run_endRound (P:=P) jump hl3
    rw [hrec] at hr hl3 ⊢
    exact ⟨hr,hl3,World.putObj_heap_same (Array.getElem?_eq_some_iff.1 hl3).1,(World.putObj_heap_other (by omega)).trans (hk3.same _ _ (Nat.le_refl _) hk2 rfl)⟩
   rintro e a3 W3 hp
   cases e with
   | normal =>
    obtain ⟨hk3,hkp3,hi3⟩:=hp
    obtain ⟨hr,hl3,hl4,hk4⟩:=fin none W3 hk3
    exact ⟨_,_,hr,.inl ⟨rfl,⟨hI.put _ hi3 (by omega) hl3 rfl,hl4,hk4⟩,hKt (hKt hw2 hkp3) (hKb _ _ _ _ (by omega) hl3 rfl rfl)⟩⟩
   | ret =>
    obtain ⟨hk3,hi3⟩:=hp
    obtain ⟨hr,hl3,hl4,hk4⟩:=fin (some .ret) W3 hk3
    exact ⟨_,_,hr,.inr ⟨rfl,.ret,(hIx _).putObj _ hi3 (by omega) hl3 rfl,hl4,hk4⟩⟩
   | exit id =>
    obtain ⟨hk3,hi3⟩:=hp
    obtain ⟨hr,hl3,hl4,hk4⟩:=fin (some (.exit id)) W3 hk3
    exact ⟨_,_,hr,.inr ⟨rfl,.exit id,(hIx _).putObj _ hi3 (by omega) hl3 rfl,hl4,hk4⟩⟩
   | goto t =>
    obtain ⟨hk3,hi3⟩:=hp
    obtain ⟨hr,hl3,hl4,hk4⟩:=fin (some (.goto t)) W3 hk3
    exact ⟨_,_,hr,.inr ⟨rfl,.goto t,(hIx _).putObj _ hi3 (by omega) hl3 rfl,hl4,hk4⟩⟩
   | panic ch=>exact hp.elim
   | outgrown=>exact hp.elim
  case behind =>
   rintro e W2 ⟨⟨v,rfl⟩,(⟨xs,hS,hi,hl,hk⟩ | ⟨pre,hSp,c,hi,hl,hk⟩)⟩
   ·have hr:=run_endLoop (P:=P) hl (by rw [hrec];simp)
    rw [hrec] at hr
    exact ⟨none,_,hr,hdone _ xs _ (Nat.le_refl _) hS (hI.put _ hi (by omega) hl rfl) ((World.putObj_heap_other (by omega)).trans hk)⟩
   ·have hr:=run_endLoop (P:=P) hl (by rw [hrec];simp)
    rw [hrec] at hr
    exact ⟨some c,_,hr,hstop _ c pre _ (Nat.le_refl _) hSp ((hIx c).putObj _ hi (by omega) hl rfl) ((World.putObj_heap_other (by omega)).trans hk)⟩
end
section
theorem CallsIn.inB {F:Fence} {n:Nat} {P:Program} {f:FuncId} {args:Array Value} {B:Nat} {w:World} {s:WB B w} {v:Value} (hB:B<=w.heap.size)
  (h:CallsIn F n P f args s.val fun e w'=>e=.returned v∧Below s.val.heap.size s.val w'):CallsIn F n P f args s.val fun e w''=>e=.returned v∧∃ s':WB B w,w''=s'.val :=
 h.mono fun _ w' ⟨he,hb⟩=>⟨he,⟨w',s.below.trans (hb.mono (Nat.le_trans hB s.below.size))⟩,rfl⟩
end
section
attribute [local go_sem ↓] Go.wp_at_zero Go.wp_at_succ
def chosen (r:Int) (B:List (Int×Int)):Int:=if B.length=0 then -1 else (minC r B (B.length - 1)).1
theorem c_choose (r:Int) (f:Nat) (hf:(r=0∧f=239)∨(r=1∧f=240)∨(r=2∧f=241)∨(r=3∧f=242)) (B:List (Int×Int)) (D:Option Addr) (c:Nat) (w:World) (hD:Ds w w.heap.size D B) (hl:B.length<=1000000) (hs:smallB B) :
  Calls Tryz.prog 236 #[.func (.func f) #[] #[],.slice D B.length c] w fun e w'=>e=.returned (.int .i64 (chosen r B))∧Below w.heap.size w w':=by
 by_cases h0:B.length=0
 ·have HV:=Lib.hid (show chosen r B=-1 by unfold chosen;rw [if_pos h0])
  have h0b:((B.length:Int) == 0)=true:=beq_iff_eq.2 (by omega)
  rw [h0]
  clear h0b h0
  go_enter Tryz.func236,Tryz.ntmps236
  go_wp2_with fail
  go_ret
  exact ⟨by rw [HV.out];rfl,Below.refl _ _⟩
 ·have HV:=Lib.hid (show chosen r B=(minC r B (B.length - 1)).1 by unfold chosen;rw [if_neg h0])
  have h0b:((B.length:Int) == 0)=false:=beq_eq_false_iff_ne.2 (by omega)
  have HM:=Lib.hid (c_min r f hf B D c w hD (by omega) hl hs)
  generalize minC r B (B.length - 1)=m at HM HV
  have hfld:∀ (a b:Int) (w:World),(Instr.field 238 (.agg #[.int .i64 a,.int .i64 b]) 0).run Tryz.prog w=.ok (.int .i64 a) w:=fun _ _ _=>by kernel_rfl
  go_enter Tryz.func236,Tryz.ntmps236
  go_wp2_with fail
  refine HM.out.mono ?_
  rintro e w1 ⟨rfl,hb1⟩
  go_wp2_with fail
  go_ret
  exact ⟨by rw [HV.out];rfl,hb1⟩
theorem X_of_app {B C:List (Int×Int)} {k:Nat} (h:k < B.length):X (B++C) k=X B k:=by simp [X,List.getElem?_append_left h]
theorem Y_of_app {B C:List (Int×Int)} {k:Nat} (h:k < B.length):Y (B++C) k=Y B k:=by simp [Y,List.getElem?_append_left h]
theorem XY_end (B:List (Int×Int)) (c:Int×Int):X (B++[c]) B.length=c.1∧Y (B++[c]) B.length=c.2:=by simp [X,Y]
theorem minC_app {r:Int} {B C:List (Int×Int)}:∀ k,k < B.length->minC r (B++C) k=minC r B k:=by
 intro k
 induction k with
 | zero=>intro h;simp only [minC,X_of_app h,Y_of_app h]
 | succ k ih=>intro h;simp only [minC,X_of_app h,Y_of_app h,ih (by omega)]
theorem cands_at {lf:List Int}:∀ n k,k < (cands lf n).length->∃ p:Nat,p < n∧X (cands lf n) k=p∧Y (cands lf n) k=Z lf p:=by
 intro n
 induction n with
 | zero=>intro k h;simp [cands] at h
 | succ n ih =>
  intro k h
  by_cases hz:0 < Z lf n
  ·have E:cands lf (n+1)=cands lf n++[((n:Int),Z lf n)]:=by simp only [cands];rw [if_pos hz]
   rw [E] at h ⊢
   rw [List.length_append,List.length_singleton] at h
   by_cases e:k=(cands lf n).length
   ·subst e
    exact ⟨n,by omega,(XY_end _ _).1,(XY_end _ _).2⟩
   ·obtain ⟨p,hp,h1,h2⟩:=ih k (by omega)
    exact ⟨p,by omega,by rw [X_of_app (by omega),h1],by rw [Y_of_app (by omega),h2]⟩
  ·have E:cands lf (n+1)=cands lf n:=by simp only [cands];rw [if_neg hz]
   rw [E] at h ⊢
   obtain ⟨p,hp,h1,h2⟩:=ih k h
   exact ⟨p,by omega,h1,h2⟩
theorem chosen_pick {L:List (Int×Int)} {lf:List Int} {t r:Int} (hr:r=0∨r=1∨r=2∨r=3):∀ n,(∀ k,k < n->X L k<=t∧0<=Z lf k) ->
  ((cands lf n).length=0∧pickTo L lf t r n=-1)∨(0 < (cands lf n).length∧∃ p:Nat,p < n∧minC r (cands lf n) ((cands lf n).length - 1)=((p:Int),Z lf p)∧pickTo L lf t r n=p):=by
 intro n
 induction n with
 | zero=>intro _;exact .inl ⟨rfl,rfl⟩
 | succ n ih =>
  intro h
  have hn:=h n (by omega)
  have i:=ih fun k hk=>h k (by omega)
  by_cases hz:0 < Z lf n
  ·have E:cands lf (n+1)=cands lf n++[((n:Int),Z lf n)]:=by simp only [cands];rw [if_pos hz]
   have hP:pickTo L lf t r (n+1)=pickStep L lf t r (pickTo L lf t r n) n:=rfl
   have hS:¬ (t < X L n∨Z lf n=0):=by omega
   right
   rw [E,List.length_append,List.length_singleton,show (cands lf n).length+1 - 1=(cands lf n).length by omega]
   refine ⟨by omega,?_⟩
   rcases i with ⟨i1,i2⟩ | ⟨i1,p,hp,i2,i3⟩
   ·refine ⟨n,by omega,?_,?_⟩
    ·rw [i1]
     have x:=XY_end (cands lf n) ((n:Int),Z lf n)
     rw [i1] at x
     simp only [minC,x.1,x.2]
    ·rw [hP,i2,pickStep,if_neg hS,if_pos (by omega)]
   ·obtain ⟨m,hm⟩:∃ m,(cands lf n).length=m+1:=⟨(cands lf n).length - 1,by omega⟩
    have x:=XY_end (cands lf n) ((n:Int),Z lf n)
    have a:minC r (cands lf n++[((n:Int),Z lf n)]) m=((p:Int),Z lf p):=by
     rw [minC_app m (by omega),<- i2];congr 1;omega
    have hM:minC r (cands lf n++[((n:Int),Z lf n)]) (cands lf n).length=if prefV r ((n:Int),Z lf n) ((p:Int),Z lf p) < 0 then ((n:Int),Z lf n) else ((p:Int),Z lf p):=by
     rw [hm] at x ⊢
     simp only [minC,a,x.1,x.2]
    have ep:((p:Int)).toNat=p:=by simp
    have hQ:pickTo L lf t r (n+1)=if r=1 then (n:Int) else if r=2∧Z lf n < Z lf p then (n:Int) else if r=3∧Z lf p < Z lf n then (n:Int) else (p:Int):=by
     rw [hP,i3,pickStep,if_neg hS,if_neg (by omega),ep]
    rw [hM,hQ]
    have fin:∀ b:Bool,(prefV r ((n:Int),Z lf n) ((p:Int),Z lf p) < 0 ↔ b=true)->(if r=1 then (n:Int) else if r=2∧Z lf n < Z lf p then (n:Int) else if r=3∧Z lf p < Z lf n then (n:Int) else (p:Int))=(if b=true then (n:Int) else (p:Int)) ->
      ∃ q:Nat,q < n+1∧(if prefV r ((n:Int),Z lf n) ((p:Int),Z lf p) < 0 then ((n:Int),Z lf n) else ((p:Int),Z lf p))=((q:Int),Z lf q)∧(if r=1 then (n:Int) else if r=2∧Z lf n < Z lf p then (n:Int) else if r=3∧Z lf p < Z lf n then (n:Int) else (p:Int))=q:=by
     intro b h1 h2
     cases b with
     | true=>exact ⟨n,by omega,by rw [if_pos (h1.2 rfl)],by rw [h2,if_pos rfl]⟩
     | false=>exact ⟨p,by omega,by rw [if_neg (fun h=>by have:=h1.1 h;cases this)],by rw [h2,if_neg (by simp)]⟩
    rcases hr with rfl | rfl | rfl | rfl
    ·exact fin false (by simp [prefV];omega) (by simp)
    ·exact fin true (by simp [prefV];omega) (by simp)
    ·by_cases hv:Z lf n < Z lf p
     ·exact fin true (by simp [prefV];omega) (by simp [hv])
     ·exact fin false (by simp [prefV];omega) (by simp [hv])
    ·by_cases hv:Z lf p < Z lf n
     ·exact fin true (by simp [prefV];omega) (by simp [hv])
     ·exact fin false (by simp [prefV];omega) (by simp [hv])
  ·have E:cands lf (n+1)=cands lf n:=by simp only [cands];rw [if_neg hz]
   have hP:pickTo L lf t r (n+1)=pickTo L lf t r n:=by
    show pickStep L lf t r (pickTo L lf t r n) n=_
    rw [pickStep,if_pos (.inr (by omega))]
   rw [E,hP]
   rcases i with i | ⟨i1,p,hp,i2,i3⟩
   ·exact .inl i
   ·exact .inr ⟨i1,p,by omega,i2,i3⟩
theorem pickTo_late {L:List (Int×Int)} {lf:List Int} {t r:Int} {n:Nat}:∀ m,(∀ k,n<=k->k < n+m->t < X L k)->pickTo L lf t r (n+m)=pickTo L lf t r n:=by
 intro m
 induction m with
 | zero=>intro _;rfl
 | succ m ih =>
  intro h
  show pickStep L lf t r (pickTo L lf t r (n+m)) (n+m)=_
  rw [pickStep,if_pos (.inl (h _ (by omega) (by omega)))]
  exact ih fun k h1 h2=>h k h1 (by omega)
theorem chosen_is {L:List (Int×Int)} (hc:cOk L=true) {r:Int} (hr:r=0∨r=1∨r=2∨r=3) (t:Nat):chosen r (cands (ordL L r t) (cnt L t))=ordW L r t:=by
 have inv:=ordL_inv hc r t
 have hle:=cnt_le L (t:Int)
 have c:=chosen_pick (L:=L) (lf:=ordL L r t) (t:=(t:Int)) hr (cnt L t) fun k hk=>⟨(lt_cnt hc (t:=(t:Int)) (by omega)).1 hk,(inv.rng k (by omega)).1⟩
 have l:pickTo L (ordL L r t) t r L.length=pickTo L (ordL L r t) t r (cnt L t):=by
  have:=pickTo_late (L:=L) (lf:=ordL L r t) (t:=(t:Int)) (r:=r) (n:=cnt L t) (L.length - cnt L t) fun k h1 h2=>by
   have:=lt_cnt hc (t:=(t:Int)) (j:=k) (by omega)
   omega
  rwa [show cnt L (t:Int)+(L.length - cnt L t)=L.length by omega] at this
 unfold ordW pick chosen
 rw [l]
 rcases c with ⟨c1,c2⟩ | ⟨c1,p,hp,c2,c3⟩
 ·rw [if_pos c1,c2]
 ·rw [if_neg (by omega),c2,c3]
theorem cands_small {L:List (Int×Int)} (hc:cOk L=true) (r:Int) (t n:Nat) (hn:n<=L.length):smallB (cands (ordL L r t) n):=by
 intro k hk
 have inv:=ordL_inv hc r t
 have hlen:=cOk_len hc
 obtain ⟨p,hp,h1,h2⟩:=cands_at n k hk
 have:=inv.rng p (by omega)
 have:=cOk_bd hc (k:=p) (by omega)
 refine ⟨?_,?_,?_,?_⟩ <;> simp only [h1,h2] <;> omega
theorem left_any {L:List (Int×Int)} (hc:cOk L=true) {r:Int} {T:Nat} (hT:lastLeave L=T) (t:Nat):(!noneLeft (ordL L r t) (ordL L r t).length)=decide (t < T):=by
 have inv:=ordL_inv hc r t
 by_cases h:t < T
 ·rw [decide_eq_true h]
  cases hn:noneLeft (ordL L r t) (ordL L r t).length with
  | false=>rfl
  | true =>
   have ok:=ordOk_parts (orderTo_ok hc r hT)
   rw [orderTo_len] at ok
   have d:=done_late hc (n:=t) (unitsOk_le ok.2.2.1 (by omega)) fun k hk=>by
    rw [leftOf_orderTo L r T t (by omega)]
    exact noneLeft_at _ hn k (by rw [inv.len];exact hk)
   omega
 ·rw [decide_eq_false h]
  rw [noneLeft_of _ fun k hk=>by rw [ordL_end hc r (T:=t) (by omega) (by rw [inv.len] at hk;exact hk)];exact Int.le_refl _]
  rfl
end
section
open Go.RowKit Go.Shelf
attribute [local go_sem] Oper.semAt_some
theorem appIn_I {F:Fence} {n:Nat} {w:World} {ops:Array Oper} {rest:List Oper} {o:Oper} {a:Act} {Q:Exit->Act->World->Prop} (hgd:o.guard=none) (s x:Operand)
  (ho:o.op=.call { callee:=.builtin .append,args:=#[s,x],argTypes:=#[85,85] })
  (base:Nat) (v:Value) (xs:List Int) (y:Int) (B:Nat) (hs:a.eval s=v) (hown:IO w base v xs) (hx:a.eval x=.slice (some ⟨B,0,none⟩) 1 1)
  (hB:w.heap[B]?=some (.cells #[.int .i64 y] 3 (0,0))) (hlen:xs.length<=1000000000000) (hbase:base<=w.heap.size)
  (h:∀ g cap w',IO w' base (.slice (some ⟨g,0,none⟩) (xs.length+1) cap) (xs++[y])->w.grownBy w' v.ownBlock->(v.ownBlock=some g∨g=w.heap.size)->wpListIn F n Tryz.prog ops Q rest (a.put o.dst (.slice (some ⟨g,0,none⟩) (xs.length+1) cap)) w') :
  wpListIn F n Tryz.prog ops Q (o::rest) a w:=by
 obtain ⟨i0,hi,hz0,hz1,hz2⟩:=info_parts infoI
 refine wpListIn_plain hgd fun K hK'=>?_
 obtain ⟨g,cap,w',hrun,r1,r2,r3,-⟩:=run_append_lies (P:=Tryz.prog) w 85 o.type base 3 i0 _ 1 8 Tryz.underlying85 hi hz0 hz1 hz2 rfl (by decide) v xs.length _ hown
  ⟨B,0,none⟩ 1 1 [.int .i64 y] rfl (World.news_of_block (cs:=#[.int .i64 y]) hB) (by simp [Value.oneCell']) (by decide) (by simp only [maxLen];omega) (by omega) hbase _ rfl
 unfold Oper.wpIn
 refine ⟨?_,?_⟩
 ·simp [Oper.about,ho,resolve,Target.leads,Sem.run_pure]
 ·rw [Oper.semAt_plain F _ _ (by rw [ho];intro c hc';cases hc')]
  simp [execOp,ho,resolve,invoke,builtin,hs,hx,hrun,Result.andThen]
  exact hK' _ _ (h g cap w' (by simpa [IO] using r1) r2 r3)
def FrO (Bo:Nat) (W:World) (b:Nat):Prop:=∃ v,W.cell? ⟨Bo,0,none⟩=some v∧v.ownBlock=some b
theorem FrO.congr {Bo:Nat} {W W':World} {n b:Nat} (hb:Below n W W') (h:Bo < n) (hf:FrO Bo W' b):FrO Bo W b:=by
 obtain ⟨v,h1,h2⟩:=hf
 exact ⟨v,(hb.cell (p:=⟨Bo,0,none⟩) h).symm.trans h1,h2⟩
def Kq (B Bo:Nat) (W W':World):Prop:=Below B W W'∧(∀ (b:Nat) (o:Obj),W.heap[b]?=some o->o.isCells=true->b≠Bo->¬ FrO Bo W b->W'.heap[b]?=some o)∧(∀ b,FrO Bo W' b->FrO Bo W b∨W.heap.size<=b)
theorem Kq.refl (B Bo:Nat) (W:World):Kq B Bo W W:=⟨Below.refl _ _,fun _ _ h _ _ _=>h,fun _ h=>.inl h⟩
theorem Kq.t {B Bo:Nat} {A C D:World} (h:Kq B Bo A C) (k:Kq B Bo C D):Kq B Bo A D:=by
 obtain ⟨h1,h2,h3⟩:=h
 obtain ⟨k1,k2,k3⟩:=k
 refine ⟨h1.trans k1,fun b o ho hc hne hf=>k2 b o (h2 b o ho hc hne hf) hc hne fun hf'=>?_,fun b hb=>?_⟩
 ·have hlt:=(Array.getElem?_eq_some_iff.1 ho).1
  rcases h3 b hf' with h4 | h4
  ·exact hf h4
  ·omega
 ·rcases k3 b hb with h4 | h4
  ·exact h3 b h4
  ·have:=h1.size;right;omega
theorem Kq.b {B Bo:Nat} {w:World} (hB:B<=w.heap.size) (hBo:Bo < w.heap.size) (W:World) (l:Nat) (o o':Obj) (hl:w.heap.size<=l) (h:W.heap[l]?=some o) (h1:o.isCells=false) (h2:o.isWalk=false):Kq B Bo W (W.putObj l o'):=by
 refine ⟨belowK_b hB W l o o' hl h h1 h2,fun b p hp hc _ _=>?_,fun b hb=>.inl (FrO.congr (belowK_b (n₀:=Bo+1) (w:=w) (by omega) W l o o' hl h h1 h2) (by omega) hb)⟩
 refine ((grownBy_putObj' W l o').block b (Array.getElem?_eq_some_iff.1 hp).1 fun e=>?_).trans hp
 cases e
 rw [h] at hp;cases hp
 rw [h1] at hc;cases hc
theorem IO.kept {w w':World} {base:Nat} {row:Option Nat} {v:Value} {xs:List Int} (h:IO w base v xs) (hg:w.grownBy w' row) (hr:∀ r,v.ownBlock=some r->row≠some r):IO w' base v xs:=by
 refine ⟨h.1,?_⟩
 have hl:=owns_lt h
 rcases h.2 with h2 | ⟨g,cap,cur,rfl,hgb,hh,rest⟩
 ·exact .inl h2
 ·have:=hl g (by simp [Value.ownBlock])
  exact .inr ⟨g,cap,cur,rfl,hgb,by rw [hg.block g (by omega) (fun e=>hr g (by simp [Value.ownBlock]) e.symm)];exact hh,rest⟩
theorem IO.blockKept {w w':World} {base:Nat} {v:Value} {xs:List Int} (h:IO w base v xs) (hr:∀ r o,v.ownBlock=some r->w.heap[r]?=some o->o.isCells=true->w'.heap[r]?=some o):IO w' base v xs:=by
 refine ⟨h.1,?_⟩
 rcases h.2 with h2 | ⟨g,cap,cur,rfl,hgb,hh,rest⟩
 ·exact .inl h2
 ·exact .inr ⟨g,cap,cur,rfl,hgb,hr g _ (by simp [Value.ownBlock]) hh rfl,rest⟩
theorem IO.cellsObj {w:World} {base:Nat} {v:Value} {xs:List Int} (h:IO w base v xs) (r:Nat) (hr:v.ownBlock=some r):∃ o:Obj,w.heap[r]?=some o∧o.isCells=true:=by
 rcases h.2 with ⟨rfl,_⟩ | ⟨g,cap,cur,rfl,hgb,hh,rest⟩
 ·simp [Value.ownBlock] at hr
 ·simp only [Value.ownBlock] at hr
  have e:g=r:=by simpa using hr
  subst e
  exact ⟨_,hh,rfl⟩
end
end Go.Proofs.YthpccmkagikhjaaGreatDoor

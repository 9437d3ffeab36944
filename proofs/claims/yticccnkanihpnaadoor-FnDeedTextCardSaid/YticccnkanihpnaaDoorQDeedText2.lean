import Derived.Test.YticccnkanihpnaaDoorQDeedText1
import Derived.Deep.RegionLaw
import Derived.Laws.IdiomStrings
import Derived.Laws.BytesString
import Derived.Laws.Concat
import Derived.Below
namespace Go.Proofs.YticccnkanihpnaaDoor
set_option linter.unusedVariables false
open Go.RowKit
structure KV where
 now:List (Int×Int)
 past:List (List (Int×Int))
def noK:KV:=⟨[],[]⟩
end Go.Proofs.YticccnkanihpnaaDoor
namespace Go.Proofs.YticccnkanihpnaaDoor
set_option linter.unusedVariables false
open Go.RowKit
def LL (Ls:List (List (Int×Int))) (k:Nat):List (Int×Int):=Ls.getD k []
def Css (w:World) (B:Nat) (A:Option Addr) (Ls:List (List (Int×Int))):Prop :=
 0 < Ls.length->∃ b off,A=some ⟨b,off,none⟩∧b < B∧∀ k,k < Ls.length->∃ Ak ck,w.cell? ⟨b,off+k,none⟩=some (.slice Ak (LL Ls k).length ck)∧(LL Ls k).length<=ck∧Cs w B Ak (LL Ls k)
theorem Css.below {w w':World} {B:Nat} {A:Option Addr} {Ls:List (List (Int×Int))} (h:Css w B A Ls) (hb:Below B w w'):Css w' B A Ls:=by
 intro hn
 obtain ⟨b,off,rfl,hlt,hc⟩:=h hn
 refine ⟨b,off,rfl,hlt,fun k hk=>?_⟩
 obtain ⟨Ak,ck,h1,h2,h3⟩:=hc k hk
 exact ⟨Ak,ck,(hb.cell (p:=⟨b,_,none⟩) hlt).trans h1,h2,h3.below hb⟩
theorem Css.more {w:World} {B B':Nat} {A:Option Addr} {Ls:List (List (Int×Int))} (h:Css w B A Ls) (hb:B<=B'):Css w B' A Ls:=by
 intro hn
 obtain ⟨b,off,rfl,hlt,hc⟩:=h hn
 refine ⟨b,off,rfl,by omega,fun k hk=>?_⟩
 obtain ⟨Ak,ck,h1,h2,h3⟩:=hc k hk
 exact ⟨Ak,ck,h1,h2,h3.more hb⟩
theorem Css.nil (w:World) (B:Nat) (A:Option Addr):Css w B A []:=fun h=>by simp at h
structure PL (w:World) (base:Nat) (v:Value) (Ls:List (List (Int×Int))) (vs:List Value):Prop where
 row:(v=.slice none 0 0∧Ls=[])∨∃ g off c,v=.slice (some ⟨g,off,none⟩) Ls.length c∧Ls.length<=c∧c<=maxLen∧base<=g∧g < w.heap.size ∧
  (∀ k,k < Ls.length->w.cell? ⟨g,off+k,none⟩=some (vs.getD k undef))∧∀ j,j < c->(w.cell? ⟨g,off+j,none⟩).isSome=true∧w.frozen? ⟨g,off+j,none⟩=false
 len:vs.length=Ls.length
 inner:∀ k,k < Ls.length->CO w base (vs.getD k undef) (LL Ls k)
 apart:∀ k,k < Ls.length->∀ r,(vs.getD k undef).ownBlock=some r->v.ownBlock≠some r
 diff:∀ i j,i < Ls.length->j < Ls.length->i≠j->∀ r,(vs.getD i undef).ownBlock=some r->(vs.getD j undef).ownBlock≠some r
theorem PL.kept {w w':World} {base:Nat} {row:Option Nat} {v:Value} {Ls:List (List (Int×Int))} {vs:List Value} (h:PL w base v Ls vs) (hg:w.grownBy w' row) (hr:∀ r,v.ownBlock=some r->row≠some r)
  (hri:∀ k,k < Ls.length->∀ r,(vs.getD k undef).ownBlock=some r->row≠some r):PL w' base v Ls vs:=by
 refine ⟨?_,h.len,fun k hk=>(h.inner k hk).grownR' hg (hri k hk),h.apart,h.diff⟩
 rcases h.row with h0 | ⟨g,off,c,rfl,h1,h2,h3,h4,h5,h6⟩
 ·exact .inl h0
 ·have hb:∀ o,(w'.heap[(⟨g,o,none⟩:Addr).block]?)=w.heap[(⟨g,o,none⟩:Addr).block]?:=fun o=>hg.block g h4 fun e=>hr g (by simp [Value.ownBlock]) e.symm
  exact .inr ⟨g,off,c,rfl,h1,h2,h3,Nat.lt_of_lt_of_le h4 hg.size,fun j hj=>(World.cell?_of_block (hb _)).trans (h5 j hj),fun j hj=>by
   have:=h6 j hj
   rw [World.cell?_of_block (hb _),World.frozen?_of_block (hb _)]
   exact this⟩
theorem PL.below {w w':World} {base B:Nat} {v:Value} {Ls:List (List (Int×Int))} {vs:List Value} (h:PL w base v Ls vs) (hb:Below B w w') (hB:w.heap.size<=B):PL w' base v Ls vs :=
 h.kept (row:=none) ⟨hb.os,hb.tape,hb.output,hb.size,fun k hk _=>hb.block k (by omega)⟩ (fun _ _ e=>by cases e) (fun _ _ _ _ e=>by cases e)
theorem PL.mono {w:World} {base base':Nat} {v:Value} {Ls:List (List (Int×Int))} {vs:List Value} (h:PL w base v Ls vs) (hB:base'<=base):PL w base' v Ls vs:=by
 refine ⟨?_,h.len,fun k hk=>(h.inner k hk).mono hB,h.apart,h.diff⟩
 rcases h.row with h0 | ⟨g,off,c,rfl,h1,h2,h3,h4,h5,h6⟩
 ·exact .inl h0
 ·exact .inr ⟨g,off,c,rfl,h1,h2,by omega,h4,h5,h6⟩
theorem PL.nil (w:World) (base:Nat):PL w base (.slice none 0 0) [] []:=⟨.inl ⟨rfl,rfl⟩,rfl,fun k h=>by simp at h,fun k h=>by simp at h,fun i j h=>by simp at h⟩
structure KO (w:World) (base:Nat) (vn vp:Value) (D:KV) (vs:List Value):Prop where
 now:CO w base vn D.now
 past:PL w base vp D.past vs
 apn:∀ r,vn.ownBlock=some r->vp.ownBlock≠some r
 api:∀ k,k < D.past.length->∀ r,(vs.getD k undef).ownBlock=some r->vn.ownBlock≠some r
theorem KO.below {w w':World} {base B:Nat} {vn vp:Value} {D:KV} {vs:List Value} (h:KO w base vn vp D vs) (hb:Below B w w') (hB:w.heap.size<=B):KO w' base vn vp D vs:=⟨h.now.below hb hB,h.past.below hb hB,h.apn,h.api⟩
theorem KO.mono {w:World} {base base':Nat} {vn vp:Value} {D:KV} {vs:List Value} (h:KO w base vn vp D vs) (hB:base'<=base):KO w base' vn vp D vs:=⟨h.now.mono hB,h.past.mono hB,h.apn,h.api⟩
theorem KO.zero (w:World) (base:Nat):KO w base (.slice none 0 0) (.slice none 0 0) noK []:=⟨CO.nil _ _,PL.nil _ _,fun r h=>by simp [Value.ownBlock] at h,fun k h=>by simp [noK] at h⟩
structure Ks (w:World) (B:Nat) (vn vp:Value) (D:KV):Prop where
 now:∃ A c,vn=.slice A D.now.length c∧D.now.length<=c∧Cs w B A D.now
 past:∃ A c,vp=.slice A D.past.length c∧D.past.length<=c∧Css w B A D.past
theorem Ks.below {w w':World} {B:Nat} {vn vp:Value} {D:KV} (h:Ks w B vn vp D) (hb:Below B w w'):Ks w' B vn vp D:=by
 obtain ⟨⟨A,c,e1,e2,e3⟩,A',c',e4,e5,e6⟩:=h
 exact ⟨⟨A,c,e1,e2,e3.below hb⟩,A',c',e4,e5,e6.below hb⟩
theorem Ks.more {w:World} {B B':Nat} {vn vp:Value} {D:KV} (h:Ks w B vn vp D) (hb:B<=B'):Ks w B' vn vp D:=by
 obtain ⟨⟨A,c,e1,e2,e3⟩,A',c',e4,e5,e6⟩:=h
 exact ⟨⟨A,c,e1,e2,e3.more hb⟩,A',c',e4,e5,e6.more hb⟩
end Go.Proofs.YticccnkanihpnaaDoor
namespace Go.Proofs.YticccnkanihpnaaDoor
set_option linter.unusedVariables false
open Go.RowKit
attribute [local go_sem ↓] Go.wp_at_zero Go.wp_at_succ
structure KCO (w:World) (base:Nat) (vn vp:Value) (D:KV) (vs:List Value):Prop where
 now:CO w base vn D.now
 past:COO w base vp D.past vs
 apn:∀ r,vn.ownBlock=some r->vp.ownBlock≠some r
 api:∀ k,k < D.past.length->∀ r,(vs.getD k undef).ownBlock=some r->vn.ownBlock≠some r
theorem unfrozen_of {w:World} {R i:Nat} {cs:Array Value} {t:TypeId} (h:w.heap[R]?=some (.cells cs t (0,0))):w.frozen? ⟨R,i,none⟩=false:=by simp [World.frozen?,h]
end Go.Proofs.YticccnkanihpnaaDoor
namespace Go.Proofs.YticccnkanihpnaaDoor
set_option linter.unusedVariables false
open Go.RowKit
attribute [local go_sem ↓] Go.wp_at_zero Go.wp_at_succ
def bs (l:List UInt8):ByteArray:=⟨l.toArray⟩
theorem bs_append (x y:List UInt8):bs x++bs y=bs (x++y):=ByteArray.mk_append_mk x y
theorem bs_size (x:List UInt8):(bs x).size=x.length:=by simp [bs,ByteArray.size]
theorem bs_list (x:List UInt8):(bs x).toList=x:=ByteArray.toList_mk x
theorem run_conv1 (c:UInt8) (x:Int) (hx:x=(c.toNat:Int)) (w:World) :
  (convert 22 9 (.slice (some ⟨w.heap.size,0,none⟩) 1 1)).run Tryd.prog (w.alloc (.cells #[.int .u8 x] 5))=.ok (.string (bs [c])) (w.alloc (.cells #[.int .u8 x] 5)):=by
 have:=run_convert_bytes_back (P:=Tryd.prog) (w.alloc (.cells #[.int .u8 x] 5)) 22 9 5 ⟨w.heap.size,0,none⟩ 1 [c] Tryd.underlying22 Tryd.underlying5 Tryd.underlying9
  (fun j hj=>by
    have hj0:j=0:=by simpa using hj
    subst hj0
    have:=World.cell?_alloc_mark w #[.int .u8 x] 5 (0,0) 0
    simp [Addr.add,hx] at this ⊢)
 exact this
theorem run_conv2 (c:UInt8) (x:Int) (hx:x=(c.toNat:Int)) (w:World) (B:Nat) (hc:w.cell? ⟨B,0,none⟩=some (.int .u8 x)) :
  (convert 22 9 (.slice (some ⟨B,0,none⟩) 1 1)).run Tryd.prog w=.ok (.string (bs [c])) w :=
 run_convert_bytes_back (P:=Tryd.prog) w 22 9 5 ⟨B,0,none⟩ 1 [c] Tryd.underlying22 Tryd.underlying5 Tryd.underlying9
  (fun j hj=>by
    have hj0:j=0:=by simpa using hj
    subst hj0
    simpa [Addr.add,hx] using hc)
set_option maxRecDepth 8000 in
set_option maxHeartbeats 2000000 in
theorem c_sNumber:∀ (n:Nat) (w:World),n<=1000000000 ->
  Calls Tryd.prog 38 #[.int .i64 (n:Int)] w fun e w'=>e=.returned (.string (bs (numL n)))∧Below w.heap.size w w':=by
 intro n
 induction n using Nat.strongRecOn with
 | _ n ih =>
  intro w hn
  have hd:=dig8_nat n
  by_cases h:n < 10
  ·have hE:=Lib.hid (numL_one h)
   have d1:decide ((n:Int) < 10)=true:=decide_eq_true (by omega)
   have p0:¬ ((n:Int) < 0):=by omega
   have p1:(0:Int)<=(n:Int):=by omega
   have q1:IntKind.i64.wrap (48+(n:Int))=48+(n:Int):=IntWalk.i64_in _ (by omega)
   have hcv:=run_conv1 (dig8 n) (48+(n:Int)) (by omega) w
   have hbz:Below w.heap.size w (w.alloc (.cells #[.int .u8 (48+(n:Int))] 5)):=by (repeat (first | exact rfl | exact Below.refl _ _ | (with_reducible refine Below.drew ?_) | (with_reducible refine Below.drewN ?_ _) | (with_reducible refine Below.alloc ?_ ?_ _) | (with_reducible refine Below.setCell ?_ ?_ _) | (show _<=_;focus (first | omega | (simp;done) | (simp;omega)))))
   clear ih hd
   go_enter Tryd.func38,Tryd.ntmps38
   go_wp2_with fail
   go_ret
   exact ⟨by rw [hE.out];rfl,hbz⟩
  ·have hE0:=numL_more h
   have hb9:n % 10 < 10:=Nat.mod_lt _ (by omega)
   have hl9:=numL_len 8 (n / 10) (by omega)
   obtain ⟨m,hm⟩:∃ m:Nat,n / 10=m:=⟨_,rfl⟩
   obtain ⟨r,hr⟩:∃ r:Nat,n % 10=r:=⟨_,rfl⟩
   have d1:decide ((n:Int) < 10)=false:=decide_eq_false (by omega)
   have q2:(n:Int).tdiv 10=(m:Int):=by rw [Int.tdiv_eq_ediv_of_nonneg (by omega)];omega
   have q3:(n:Int).tmod 10=(r:Int):=by rw [Int.tmod_eq_emod_of_nonneg (by omega)];omega
   have q4:IntKind.i64.wrap (48+(r:Int))=48+(r:Int):=IntWalk.i64_in _ (by omega)
   have q5:IntKind.i64.wrap (m:Int)=(m:Int):=IntWalk.i64_in _ (by omega)
   have hcv:=fun W=>run_conv1 (dig8 n) (48+(r:Int)) (by omega) W
   have hcv2:=fun W B=>run_conv2 (dig8 n) (48+(r:Int)) (by omega) W B
   have q6:IntKind.u8.wrap (48+(r:Int))=48+(r:Int):=by show (48+(r:Int)) % 256=_;omega
   have HC:=Lib.hid (fun W=>ih m (by omega) W (by omega))
   rw [hm] at hl9 hE0
   have hE:=Lib.hid hE0
   have z1:(bs (numL m)).size<=9:=by rw [bs_size];omega
   have z2:(bs [dig8 n]).size=1:=by rw [bs_size];rfl
   have hz:¬ ((bs (numL m)).size+(bs [dig8 n]).size > 9223372036854775807):=by omega
   generalize hdg:dig8 n=dg at *
   have HDG:=Lib.hid hdg
   generalize hnm:numL m=nm at *
   clear ih hd hE0 hdg hnm h hb9 hl9 hm hr z1 z2
   go_enter Tryd.func38,Tryd.ntmps38
   go_wp2_with fail
   go_region_with (go_at_call 38;refine (HC.out _).mono ?_;rintro e w6 ⟨rfl,hb6⟩;first | (have hc6:w6.cell? ⟨w.heap.size,0,none⟩=some (.int .u8 (48+(r:Int))):=(hb6.cell (p:=⟨w.heap.size,0,none⟩) (by simp)).trans (World.cell?_alloc_mark w.drew #[.int .u8 (48+(r:Int))] 5 (0,0) 0)) | skip)
   all_goals
    have kx:Below w.heap.size w w6:=by
     first
      | exact (Below.refl _ _).drew.trans hb6
      | exact (((Below.refl _ w).alloc (Nat.le_refl _) _).drew).trans (hb6.mono (by simp))
    have ky:=fun o=>kx.alloc kx.size o
    have hV:=hE.out
    clear q2 q3 q4 q5 q6 hcv hcv2 hz
    go_wp2_with fail
    go_ret
    exact ⟨by rw [hV,<- bs_append];rfl,by first | exact kx | exact ky _⟩
end Go.Proofs.YticccnkanihpnaaDoor
namespace Go.Proofs.YticccnkanihpnaaDoor
set_option linter.unusedVariables false
open Go.RowKit
def ZS (xs:List (List UInt8)) (k:Nat):List UInt8:=xs.getD k []
def sv (x:List UInt8):Value:=.string (bs x)
def Ss (w:World) (B:Nat) (A:Option Addr) (xs:List (List UInt8)):Prop :=
 0 < xs.length->∃ b off,A=some ⟨b,off,none⟩∧b < B∧∀ k,k < xs.length->w.cell? ⟨b,off+k,none⟩=some (.string (bs (ZS xs k)))
theorem Ss.below {w w':World} {B:Nat} {A:Option Addr} {xs:List (List UInt8)} (h:Ss w B A xs) (hb:Below B w w'):Ss w' B A xs:=by
 intro hn
 obtain ⟨b,off,rfl,hlt,hc⟩:=h hn
 exact ⟨b,off,rfl,hlt,fun k hk=>(hb.cell (p:=⟨b,_,none⟩) hlt).trans (hc k hk)⟩
theorem Ss.more {w:World} {B B':Nat} {A:Option Addr} {xs:List (List UInt8)} (h:Ss w B A xs) (hb:B<=B'):Ss w B' A xs:=by
 intro hn
 obtain ⟨b,off,rfl,hlt,hc⟩:=h hn
 exact ⟨b,off,rfl,by omega,hc⟩
def SO (w:World) (base:Nat) (v:Value) (xs:List (List UInt8)):Prop:=w.ownsRow base 9 1 v xs.length (xs.map sv)
theorem SO.nil (w:World) (base:Nat):SO w base (.slice none 0 0) []:=⟨rfl,.inl ⟨rfl,rfl⟩⟩
theorem SO.empty (w:World) {base:Nat} (h:base<=w.heap.size):SO (w.alloc (.cells #[] 9)) base (.slice (some ⟨w.heap.size,0,none⟩) 0 0) [] :=
 ⟨rfl,.inr ⟨w.heap.size,0,#[],rfl,h,heap_alloc_new _ _,Nat.le_refl _,by simp [maxLen],rfl,rfl⟩⟩
theorem SO.below {w w':World} {base B:Nat} {v:Value} {xs:List (List UInt8)} (h:SO w base v xs) (hb:Below B w w') (hB:w.heap.size<=B):SO w' base v xs:=owns_below h hb hB
theorem SO.mono {w:World} {base base':Nat} {v:Value} {xs:List (List UInt8)} (h:SO w base v xs) (hB:base'<=base):SO w base' v xs:=owns_mono h hB
theorem SO.form {w:World} {base:Nat} {v:Value} {xs:List (List UInt8)} (h:SO w base v xs):∃ A c,v=.slice A xs.length c∧xs.length<=c∧c<=maxLen∧Ss w w.heap.size A xs:=by
 have hl:=owns_lt h
 rcases h.2 with ⟨rfl,h0⟩ | ⟨g,cap,cur,rfl,hg,hh,h1,h2,h3,h4⟩
 ·exact ⟨none,0,by rw [h0],by omega,by simp [maxLen],fun hp=>by omega⟩
 ·refine ⟨_,cap,rfl,h1,h2,fun hp=>⟨g,0,rfl,hl g (by simp [Value.ownBlock]),fun k hk=>?_⟩⟩
  rw [World.ownsRow.cellAt h (0+k) (by omega)]
  simp [ZS,sv,hk]
theorem SO.cells {w:World} {base g n c:Nat} {M:List (List UInt8)} (h:SO w base (.slice (some ⟨g,0,none⟩) n c) M) :
  n=M.length∧(∀ k,k < n->w.cell? ⟨g,k,none⟩=some (.string (bs (ZS M k))))∧∀ j,w.frozen? ⟨g,j,none⟩=false:=by
 have hn:n=M.length:=by
  rcases h.2 with ⟨h2,_⟩ | ⟨g',cap,cur,h2,_⟩
  ·cases h2
  ·injection h2
 subst hn
 refine ⟨rfl,fun k hk=>?_,fun j=>World.ownsRow.frozenAt h j⟩
 rw [World.ownsRow.cellAt h k (by omega)]
 simp [ZS,sv,hk]
theorem SO.alloc {w:World} {base:Nat} {v:Value} {xs:List (List UInt8)} (h:SO w base v xs) (o:Obj):SO (w.alloc o) base v xs:=World.ownsRow.alloc h o
theorem SO.drew {w:World} {base:Nat} {v:Value} {xs:List (List UInt8)} (h:SO w base v xs):SO w.drew base v xs:=h
section
variable {w:World}
end
end Go.Proofs.YticccnkanihpnaaDoor
namespace Go.Proofs.YticccnkanihpnaaDoor
set_option linter.unusedVariables false
open Go.RowKit
def ZD (L:List DV) (k:Nat):DV:=L.getD k ⟨0,0,0⟩
def flatD (L:List DV):List Value:=L.flatMap fun d=>[.int .i64 d.k,.int .i64 d.a,.int .i64 d.b]
theorem flatD_at (L:List DV):∀ k,k < L.length->(flatD L)[k * 3]?=some (.int .i64 (ZD L k).k)∧(flatD L)[k * 3+1]?=some (.int .i64 (ZD L k).a)∧(flatD L)[k * 3+2]?=some (.int .i64 (ZD L k).b):=by
 induction L with
 | nil=>intro k hk;simp at hk
 | cons c L ih =>
  intro k hk
  cases k with
  | zero=>exact ⟨rfl,rfl,rfl⟩
  | succ k =>
   have:=ih k (by simpa using hk)
   have e1:(k+1) * 3=k * 3+1+1+1:=by omega
   have e2:(k+1) * 3+1=k * 3+1+1+1+1:=by omega
   have e3:(k+1) * 3+2=k * 3+2+1+1+1:=by omega
   rw [e2,e3,e1]
   simp only [flatD,List.flatMap_cons,List.cons_append,List.nil_append,List.getElem?_cons_succ,ZD,List.getD_cons_succ] at this ⊢
   exact this
def Ds3 (w:World) (B:Nat) (A:Option Addr) (L:List DV):Prop :=
 0 < L.length->∃ b off,A=some ⟨b,off,none⟩∧b < B∧∀ k,k < L.length->w.cell? ⟨b,off+k * 3,none⟩=some (.int .i64 (ZD L k).k)∧w.cell? ⟨b,off+k * 3+1,none⟩=some (.int .i64 (ZD L k).a)∧w.cell? ⟨b,off+k * 3+2,none⟩=some (.int .i64 (ZD L k).b)
theorem Ds3.below {w w':World} {B:Nat} {A:Option Addr} {L:List DV} (h:Ds3 w B A L) (hb:Below B w w'):Ds3 w' B A L:=by
 intro hn
 obtain ⟨b,off,rfl,hlt,hc⟩:=h hn
 exact ⟨b,off,rfl,hlt,fun k hk=>⟨(hb.cell (p:=⟨b,_,none⟩) hlt).trans (hc k hk).1,(hb.cell (p:=⟨b,_,none⟩) hlt).trans (hc k hk).2.1,(hb.cell (p:=⟨b,_,none⟩) hlt).trans (hc k hk).2.2⟩⟩
theorem Ds3.more {w:World} {B B':Nat} {A:Option Addr} {L:List DV} (h:Ds3 w B A L) (hb:B<=B'):Ds3 w B' A L:=by
 intro hn
 obtain ⟨b,off,rfl,hlt,hc⟩:=h hn
 exact ⟨b,off,rfl,by omega,hc⟩
def EO (w:World) (base:Nat) (v:Value) (L:List DV):Prop:=w.ownsRow base 24 3 v L.length (flatD L)
theorem EO.nil (w:World) (base:Nat):EO w base (.slice none 0 0) []:=⟨rfl,.inl ⟨rfl,rfl⟩⟩
theorem EO.empty (w:World) {base:Nat} (h:base<=w.heap.size):EO (w.alloc (.cells #[] 24)) base (.slice (some ⟨w.heap.size,0,none⟩) 0 0) [] :=
 ⟨rfl,.inr ⟨w.heap.size,0,#[],rfl,h,heap_alloc_new _ _,Nat.le_refl _,by simp [maxLen],rfl,rfl⟩⟩
theorem EO.below {w w':World} {base B:Nat} {v:Value} {xs:List DV} (h:EO w base v xs) (hb:Below B w w') (hB:w.heap.size<=B):EO w' base v xs:=owns_below h hb hB
theorem EO.mono {w:World} {base base':Nat} {v:Value} {xs:List DV} (h:EO w base v xs) (hB:base'<=base):EO w base' v xs:=owns_mono h hB
theorem EO.alloc {w:World} {base:Nat} {v:Value} {xs:List DV} (h:EO w base v xs) (o:Obj):EO (w.alloc o) base v xs:=World.ownsRow.alloc h o
theorem EO.drew {w:World} {base:Nat} {v:Value} {xs:List DV} (h:EO w base v xs):EO w.drew base v xs:=h
theorem EO.form {w:World} {base:Nat} {v:Value} {L:List DV} (h:EO w base v L):∃ A c,v=.slice A L.length c∧L.length<=c∧c<=maxLen∧Ds3 w w.heap.size A L:=by
 have hl:=owns_lt h
 rcases h.2 with ⟨rfl,h0⟩ | ⟨g,cap,cur,rfl,hg,hh,h1,h2,h3,h4⟩
 ·exact ⟨none,0,by rw [h0],by omega,by simp [maxLen],fun hp=>by omega⟩
 ·refine ⟨_,cap,rfl,h1,h2,fun hp=>⟨g,0,rfl,hl g (by simp [Value.ownBlock]),fun k hk=>?_⟩⟩
  have:=flatD_at L k hk
  refine ⟨?_,?_,?_⟩
  ·rw [Nat.zero_add,World.ownsRow.cellAt h (k * 3) (by omega)];exact this.1
  ·rw [Nat.zero_add,World.ownsRow.cellAt h (k * 3+1) (by omega)];exact this.2.1
  ·rw [Nat.zero_add,World.ownsRow.cellAt h (k * 3+2) (by omega)];exact this.2.2
section
variable {w:World}
end
end Go.Proofs.YticccnkanihpnaaDoor
namespace Go.Proofs.YticccnkanihpnaaDoor
set_option linter.unusedVariables false
open Go.RowKit
attribute [local go_sem ↓] Go.wp_at_zero Go.wp_at_succ
theorem deedL_come {a b:Int} (ha:0<=a∧a<=99) (hb:0<=b∧b<=99):deedL ⟨0,a,b⟩=wCome++[32]++numL a.toNat++[32]++numL b.toNat:=by rw [deedL,if_pos ⟨rfl,ha,hb⟩]
theorem deedL_none {k a b:Int} (h0:¬ (k=0∧(0<=a∧a<=99)∧(0<=b∧b<=99))) (h2:¬ (k=2∧(0<=a∧a<=99)∧b=0)) (h3:¬ (k=3∧(0<=a∧a<=99)∧b=0))
  (h1:¬ (k=1∧a=0∧b=0)) (h4:¬ (k=4∧a=0∧b=0)):deedL ⟨k,a,b⟩=[]:=by
 rw [deedL,if_neg h0,if_neg h2,if_neg h3,if_neg (by simpa using h1),if_neg (by simpa using h4)]
theorem deedL_need {a:Int} (ha:0<=a∧a<=99):deedL ⟨2,a,0⟩=wNeed++[32]++numL a.toNat:=by rw [deedL,if_neg (by simp),if_pos ⟨rfl,ha,rfl⟩]
theorem deedL_later {a:Int} (ha:0<=a∧a<=99):deedL ⟨3,a,0⟩=wLater++[32]++numL a.toNat:=by rw [deedL,if_neg (by simp),if_neg (by simp),if_pos ⟨rfl,ha,rfl⟩]
theorem num_size {n:Nat} (h:n<=99):(bs (numL n)).size<=2:=by rw [bs_size];exact numL_len 1 n (by omega)
set_option maxRecDepth 8000 in
set_option maxHeartbeats 4000000 in
theorem c_sDeedGo  (w:World) :
  Calls Tryd.prog 12 #[.agg #[.int .i64 1,.int .i64 0,.int .i64 0]] w fun e w'=>e=.returned (.string (bs (deedL ⟨1,0,0⟩)))∧Below w.heap.size w w':=by
 have hbz:Below w.heap.size w (w.alloc (.cells #[.int .i64 1,.int .i64 0,.int .i64 0] 24)):=by (repeat (first | exact rfl | exact Below.refl _ _ | (with_reducible refine Below.drew ?_) | (with_reducible refine Below.drewN ?_ _) | (with_reducible refine Below.alloc ?_ ?_ _) | (with_reducible refine Below.setCell ?_ ?_ _) | (show _<=_;focus (first | omega | (simp;done) | (simp;omega)))))
 go_enter Tryd.func12,Tryd.ntmps12
 go_wp2_with fail
 go_ret
 exact ⟨rfl,hbz⟩
set_option maxRecDepth 8000 in
set_option maxHeartbeats 4000000 in
theorem c_sDeedBack  (w:World) :
  Calls Tryd.prog 12 #[.agg #[.int .i64 4,.int .i64 0,.int .i64 0]] w fun e w'=>e=.returned (.string (bs (deedL ⟨4,0,0⟩)))∧Below w.heap.size w w':=by
 have hbz:Below w.heap.size w (w.alloc (.cells #[.int .i64 4,.int .i64 0,.int .i64 0] 24)):=by (repeat (first | exact rfl | exact Below.refl _ _ | (with_reducible refine Below.drew ?_) | (with_reducible refine Below.drewN ?_ _) | (with_reducible refine Below.alloc ?_ ?_ _) | (with_reducible refine Below.setCell ?_ ?_ _) | (show _<=_;focus (first | omega | (simp;done) | (simp;omega)))))
 go_enter Tryd.func12,Tryd.ntmps12
 go_wp2_with fail
 go_ret
 exact ⟨rfl,hbz⟩
set_option maxRecDepth 8000 in
set_option maxHeartbeats 4000000 in
theorem c_sDeedCome (an bn:Nat) (han:an<=99) (hbn:bn<=99) (w:World) :
  Calls Tryd.prog 12 #[.agg #[.int .i64 0,.int .i64 (an:Int),.int .i64 (bn:Int)]] w fun e w'=>e=.returned (.string (bs (deedL ⟨0,(an:Int),(bn:Int)⟩)))∧Below w.heap.size w w':=by
 have HA:=Lib.hid (fun W=>c_l1In (an:Int) 0 99 W)
 have DA:=Lib.hid (show decide (0<=(an:Int)∧(an:Int)<=99)=true from decide_eq_true (by omega))
 have HN:=Lib.hid (fun W=>c_sNumber an W (by omega))
 have HV:=Lib.hid (deedL_come (a:=(an:Int)) (b:=(bn:Int)) (by omega) (by omega))
 have z1:=num_size (n:=an) (by omega)
 have z2:=num_size (n:=bn) (by omega)
 have HK:=Lib.hid (fun (n:Nat) W (h:n<=99)=>c_sNumber n W (by omega))
 have HB:=Lib.hid (fun W=>c_l1In (bn:Int) 0 99 W)
 have DB:=Lib.hid (show decide (0<=(bn:Int)∧(bn:Int)<=99)=true from decide_eq_true (by omega))
 have hb1:Below w.heap.size w (w.alloc (.cells #[.int .i64 0,.int .i64 (an:Int),.int .i64 (bn:Int)] 24)):=by (repeat (first | exact rfl | exact Below.refl _ _ | (with_reducible refine Below.drew ?_) | (with_reducible refine Below.drewN ?_ _) | (with_reducible refine Below.alloc ?_ ?_ _) | (with_reducible refine Below.setCell ?_ ?_ _) | (show _<=_;focus (first | omega | (simp;done) | (simp;omega)))))
 have c0:=World.cell?_alloc_mark w #[.int .i64 0,.int .i64 (an:Int),.int .i64 (bn:Int)] 24 (0,0) 0
 have c1:=World.cell?_alloc_mark w #[.int .i64 0,.int .i64 (an:Int),.int .i64 (bn:Int)] 24 (0,0) 1
 have c2:=World.cell?_alloc_mark w #[.int .i64 0,.int .i64 (an:Int),.int .i64 (bn:Int)] 24 (0,0) 2
 have hsz:w.heap.size < (w.alloc (.cells #[.int .i64 0,.int .i64 (an:Int),.int .i64 (bn:Int)] 24)).heap.size:=by simp
 have C1:=Lib.hid c1
 have C2:=Lib.hid c2
 clear c0 c1 c2
 go_enter Tryd.func12,Tryd.ntmps12
 go_wp2_with fail
 refine (HA.out _).mono ?_
 rintro e w1 ⟨rfl,rfl⟩
 rw [DA.out]
 go_wp2_with fail
 refine (HB.out _).mono ?_
 rintro e w1 ⟨rfl,rfl⟩
 rw [DB.out]
 go_wp2_with fail
 have c1:=C1.out
 have c2:=C2.out
 generalize w.alloc (.cells #[.int .i64 0,.int .i64 (an:Int),.int .i64 (bn:Int)] 24)=w1 at *
 have g1:=WB.cell (w:=w1) hsz c1
 have g2:=WB.cell (w:=w1) hsz c2
 clear c1 c2 C1 C2
 have y1:¬ (({ data:=#[99,111,109,101,32] }:ByteArray).size+(bs (numL an)).size > 9223372036854775807):=by show ¬ (5+_ > _);omega
 have y2:¬ (9223372036854775807 < 5+(bs (numL an)).size):=by omega
 have y3:¬ (9223372036854775807 < 5+(bs (numL an)).size+1):=by omega
 have y4:¬ (9223372036854775807 < 5+(bs (numL an)).size+1+(bs (numL bn)).size):=by omega
 refine wp_region_wb w1.heap.size (by kernel_rfl) (by kernel_rfl) ?_
 repeat (go_big_quiet_step ((go_at_call 38;exact Calls.inB (Nat.le_refl _) (HK.out _ _ (by omega)))))
 refine wpQuiet_nil ?_
 rintro w2 ⟨⟨_,hb2⟩,rfl⟩
 clear g1 g2 y1 y2 y3 y4
 go_wp2_with fail
 go_ret
 exact ⟨by rw [HV.out,<- bs_append,<- bs_append,<- bs_append,<- bs_append,Int.toNat_natCast,Int.toNat_natCast];rfl,hb1.trans (hb2.mono hb1.size)⟩
set_option maxRecDepth 8000 in
set_option maxHeartbeats 4000000 in
theorem c_sDeedNeed (an:Nat) (han:an<=99) (w:World) :
  Calls Tryd.prog 12 #[.agg #[.int .i64 2,.int .i64 (an:Int),.int .i64 0]] w fun e w'=>e=.returned (.string (bs (deedL ⟨2,(an:Int),0⟩)))∧Below w.heap.size w w':=by
 have HA:=Lib.hid (fun W=>c_l1In (an:Int) 0 99 W)
 have DA:=Lib.hid (show decide (0<=(an:Int)∧(an:Int)<=99)=true from decide_eq_true (by omega))
 have HN:=Lib.hid (fun W=>c_sNumber an W (by omega))
 have HV:=Lib.hid (deedL_need (a:=(an:Int)) (by omega))
 have z1:=num_size (n:=an) (by omega)
 have hb1:Below w.heap.size w (w.alloc (.cells #[.int .i64 2,.int .i64 (an:Int),.int .i64 0] 24)):=by (repeat (first | exact rfl | exact Below.refl _ _ | (with_reducible refine Below.drew ?_) | (with_reducible refine Below.drewN ?_ _) | (with_reducible refine Below.alloc ?_ ?_ _) | (with_reducible refine Below.setCell ?_ ?_ _) | (show _<=_;focus (first | omega | (simp;done) | (simp;omega)))))
 have c0:=World.cell?_alloc_mark w #[.int .i64 2,.int .i64 (an:Int),.int .i64 0] 24 (0,0) 0
 have c1:=World.cell?_alloc_mark w #[.int .i64 2,.int .i64 (an:Int),.int .i64 0] 24 (0,0) 1
 have c2:=World.cell?_alloc_mark w #[.int .i64 2,.int .i64 (an:Int),.int .i64 0] 24 (0,0) 2
 have hsz:w.heap.size < (w.alloc (.cells #[.int .i64 2,.int .i64 (an:Int),.int .i64 0] 24)).heap.size:=by simp
 have C1:=Lib.hid c1
 have C2:=Lib.hid c2
 clear c0 c1 c2
 go_enter Tryd.func12,Tryd.ntmps12
 go_wp2_with fail
 refine (HA.out _).mono ?_
 rintro e w1 ⟨rfl,rfl⟩
 rw [DA.out]
 go_wp2_with fail
 refine (HN.out _).mono ?_
 rintro e w2 ⟨rfl,hb2⟩
 have hx:=hb1.trans (hb2.mono hb1.size)
 have y2:¬ (9223372036854775807 < 5+(bs (numL an)).size):=by omega
 clear C1 C2
 go_wp2_with fail
 go_ret
 exact ⟨by rw [HV.out,<- bs_append,<- bs_append,Int.toNat_natCast];rfl,hx⟩
set_option maxRecDepth 8000 in
set_option maxHeartbeats 4000000 in
theorem c_sDeedLater (an:Nat) (han:an<=99) (w:World) :
  Calls Tryd.prog 12 #[.agg #[.int .i64 3,.int .i64 (an:Int),.int .i64 0]] w fun e w'=>e=.returned (.string (bs (deedL ⟨3,(an:Int),0⟩)))∧Below w.heap.size w w':=by
 have HA:=Lib.hid (fun W=>c_l1In (an:Int) 0 99 W)
 have DA:=Lib.hid (show decide (0<=(an:Int)∧(an:Int)<=99)=true from decide_eq_true (by omega))
 have HN:=Lib.hid (fun W=>c_sNumber an W (by omega))
 have HV:=Lib.hid (deedL_later (a:=(an:Int)) (by omega))
 have z1:=num_size (n:=an) (by omega)
 have hb1:Below w.heap.size w (w.alloc (.cells #[.int .i64 3,.int .i64 (an:Int),.int .i64 0] 24)):=by (repeat (first | exact rfl | exact Below.refl _ _ | (with_reducible refine Below.drew ?_) | (with_reducible refine Below.drewN ?_ _) | (with_reducible refine Below.alloc ?_ ?_ _) | (with_reducible refine Below.setCell ?_ ?_ _) | (show _<=_;focus (first | omega | (simp;done) | (simp;omega)))))
 have c0:=World.cell?_alloc_mark w #[.int .i64 3,.int .i64 (an:Int),.int .i64 0] 24 (0,0) 0
 have c1:=World.cell?_alloc_mark w #[.int .i64 3,.int .i64 (an:Int),.int .i64 0] 24 (0,0) 1
 have c2:=World.cell?_alloc_mark w #[.int .i64 3,.int .i64 (an:Int),.int .i64 0] 24 (0,0) 2
 have hsz:w.heap.size < (w.alloc (.cells #[.int .i64 3,.int .i64 (an:Int),.int .i64 0] 24)).heap.size:=by simp
 have C1:=Lib.hid c1
 have C2:=Lib.hid c2
 clear c0 c1 c2
 go_enter Tryd.func12,Tryd.ntmps12
 go_wp2_with fail
 refine (HA.out _).mono ?_
 rintro e w1 ⟨rfl,rfl⟩
 rw [DA.out]
 go_wp2_with fail
 refine (HN.out _).mono ?_
 rintro e w2 ⟨rfl,hb2⟩
 have hx:=hb1.trans (hb2.mono hb1.size)
 have y2:¬ (9223372036854775807 < 6+(bs (numL an)).size):=by omega
 clear C1 C2
 go_wp2_with fail
 go_ret
 exact ⟨by rw [HV.out,<- bs_append,<- bs_append,Int.toNat_natCast];rfl,hx⟩
set_option maxRecDepth 8000 in
set_option maxHeartbeats 8000000 in
theorem c_sDeedText (k a b:Int) (w:World) :
  Calls Tryd.prog 12 #[.agg #[.int .i64 k,.int .i64 a,.int .i64 b]] w fun e w'=>e=.returned (.string (bs (deedL ⟨k,a,b⟩)))∧Below w.heap.size w w':=by
 have HA:=Lib.hid (fun W=>c_l1In a 0 99 W)
 have HB:=Lib.hid (fun W=>c_l1In b 0 99 W)
 have hbz:Below w.heap.size w (w.alloc (.cells #[.int .i64 k,.int .i64 a,.int .i64 b] 24)):=by (repeat (first | exact rfl | exact Below.refl _ _ | (with_reducible refine Below.drew ?_) | (with_reducible refine Below.drewN ?_ _) | (with_reducible refine Below.alloc ?_ ?_ _) | (with_reducible refine Below.setCell ?_ ?_ _) | (show _<=_;focus (first | omega | (simp;done) | (simp;omega)))))
 by_cases k0:k=0
 ·subst k0
  by_cases ha:0<=a∧a<=99
  ·by_cases hb:0<=b∧b<=99
   ·obtain ⟨an,rfl⟩:∃ n:Nat,a=(n:Int):=⟨a.toNat,by omega⟩
    obtain ⟨bn,rfl⟩:∃ n:Nat,b=(n:Int):=⟨b.toNat,by omega⟩
    exact c_sDeedCome an bn (by omega) (by omega) w
   ·have DA:=Lib.hid (decide_eq_true ha)
    have DB:=Lib.hid (decide_eq_false hb)
    have HV:=Lib.hid (deedL_none (k:=0) (a:=a) (b:=b) (fun h=>hb h.2.2) (by omega) (by omega) (by omega) (by omega))
    clear ha hb
    go_enter Tryd.func12,Tryd.ntmps12
    go_wp2_with fail
    refine (HA.out _).mono ?_
    rintro e w1 ⟨rfl,rfl⟩
    rw [DA.out]
    go_wp2_with fail
    refine (HB.out _).mono ?_
    rintro e w1 ⟨rfl,rfl⟩
    rw [DB.out]
    go_wp2_with fail
    go_ret
    exact ⟨by rw [HV.out];rfl,hbz⟩
  ·have DA:=Lib.hid (decide_eq_false ha)
   have HV:=Lib.hid (deedL_none (k:=0) (a:=a) (b:=b) (fun h=>ha h.2.1) (by omega) (by omega) (by omega) (by omega))
   clear ha
   go_enter Tryd.func12,Tryd.ntmps12
   go_wp2_with fail
   refine (HA.out _).mono ?_
   rintro e w1 ⟨rfl,rfl⟩
   rw [DA.out]
   go_wp2_with fail
   go_ret
   exact ⟨by rw [HV.out];rfl,hbz⟩
 ·have e0:(k == 0)=false:=beq_eq_false_iff_ne.2 k0
  by_cases k2:k=2
  ·subst k2
   by_cases ha:0<=a∧a<=99
   ·have DA:=Lib.hid (decide_eq_true ha)
    by_cases hb:b=0
    ·subst hb
     obtain ⟨an,rfl⟩:∃ n:Nat,a=(n:Int):=⟨a.toNat,by omega⟩
     exact c_sDeedNeed an (by omega) w
    ·have hb0:(b == 0)=false:=beq_eq_false_iff_ne.2 hb
     have HV:=Lib.hid (deedL_none (k:=2) (a:=a) (b:=b) (by omega) (by omega) (by omega) (by omega) (by omega))
     clear ha hb
     go_enter Tryd.func12,Tryd.ntmps12
     go_wp2_with fail
     refine (HA.out _).mono ?_
     rintro e w1 ⟨rfl,rfl⟩
     rw [DA.out]
     go_wp2_with fail
     go_ret
     exact ⟨by rw [HV.out];rfl,hbz⟩
   ·have DA:=Lib.hid (decide_eq_false ha)
    have HV:=Lib.hid (deedL_none (k:=2) (a:=a) (b:=b) (by omega) (by omega) (by omega) (by omega) (by omega))
    clear ha
    go_enter Tryd.func12,Tryd.ntmps12
    go_wp2_with fail
    refine (HA.out _).mono ?_
    rintro e w1 ⟨rfl,rfl⟩
    rw [DA.out]
    go_wp2_with fail
    go_ret
    exact ⟨by rw [HV.out];rfl,hbz⟩
  ·have e2:(k == 2)=false:=beq_eq_false_iff_ne.2 k2
   by_cases k3:k=3
   ·subst k3
    by_cases ha:0<=a∧a<=99
    ·have DA:=Lib.hid (decide_eq_true ha)
     by_cases hb:b=0
     ·subst hb
      obtain ⟨an,rfl⟩:∃ n:Nat,a=(n:Int):=⟨a.toNat,by omega⟩
      exact c_sDeedLater an (by omega) w
     ·have hb0:(b == 0)=false:=beq_eq_false_iff_ne.2 hb
      have HV:=Lib.hid (deedL_none (k:=3) (a:=a) (b:=b) (by omega) (by omega) (by omega) (by omega) (by omega))
      clear ha hb
      go_enter Tryd.func12,Tryd.ntmps12
      go_wp2_with fail
      refine (HA.out _).mono ?_
      rintro e w1 ⟨rfl,rfl⟩
      rw [DA.out]
      go_wp2_with fail
      go_ret
      exact ⟨by rw [HV.out];rfl,hbz⟩
    ·have DA:=Lib.hid (decide_eq_false ha)
     have HV:=Lib.hid (deedL_none (k:=3) (a:=a) (b:=b) (by omega) (by omega) (by omega) (by omega) (by omega))
     clear ha
     go_enter Tryd.func12,Tryd.ntmps12
     go_wp2_with fail
     refine (HA.out _).mono ?_
     rintro e w1 ⟨rfl,rfl⟩
     rw [DA.out]
     go_wp2_with fail
     go_ret
     exact ⟨by rw [HV.out];rfl,hbz⟩
   ·have e3:(k == 3)=false:=beq_eq_false_iff_ne.2 k3
    by_cases h1:k=1∧a=0∧b=0
    ·obtain ⟨rfl,rfl,rfl⟩:=h1
     exact c_sDeedGo w
    ·by_cases h4:k=4∧a=0∧b=0
     ·obtain ⟨rfl,rfl,rfl⟩:=h4
      exact c_sDeedBack w
     ·have HV:=Lib.hid (deedL_none (fun h=>k0 h.1) (fun h=>k2 h.1) (fun h=>k3 h.1) h1 h4)
      have f1:¬ (k=1∧a=0∧b=0):=h1
      have f4:¬ (k=4∧a=0∧b=0):=h4
      clear HA HB
      go_enter Tryd.func12,Tryd.ntmps12
      go_wp2_with fail
      all_goals
       go_ret
       exact ⟨by rw [HV.out];rfl,by (repeat (first | exact rfl | exact Below.refl _ _ | (with_reducible refine Below.drew ?_) | (with_reducible refine Below.drewN ?_ _) | (with_reducible refine Below.alloc ?_ ?_ _) | (with_reducible refine Below.setCell ?_ ?_ _) | (show _<=_;focus (first | omega | (simp;done) | (simp;omega)))))⟩
end Go.Proofs.YticccnkanihpnaaDoor
namespace Go.Proofs.YticccnkanihpnaaDoor
set_option linter.unusedVariables false
open Go.RowKit
attribute [local go_sem ↓] Go.wp_at_zero Go.wp_at_succ
section
variable {w:World}
end
theorem set3 {w:World} {R:Nat} {t:TypeId} {x y z:Value} (p q r:Value) (h:w.heap[R]?=some (.cells #[x,y,z] t (0,0))) :
  (((w.setCell ⟨R,0,none⟩ p).setCell ⟨R,1,none⟩ q).setCell ⟨R,2,none⟩ r).heap[R]?=some (.cells #[p,q,r] t (0,0)):=by
 obtain ⟨hlt,he⟩:=Array.getElem?_eq_some_iff.1 h
 rw [Array.getElem?_eq_getElem (by simpa [World.setCell] using hlt)]
 simp [World.setCell,Array.getElem_modify,he]
def readV (o:Option DV):Value:=match o with
 | some d=>.tuple #[.agg #[.int .i64 d.k,.int .i64 d.a,.int .i64 d.b],.bool true]
 | none=>.tuple #[.agg #[.int .i64 0,.int .i64 0,.int .i64 0],.bool false]
end Go.Proofs.YticccnkanihpnaaDoor
namespace Go.Proofs.YticccnkanihpnaaDoor
set_option linter.unusedVariables false
open Go.RowKit
theorem hsetA {w:World} {R:Nat} {t:TypeId} {x y:Value} (q:Value) (h:w.heap[R]?=some (.cells #[x,y] t (0,0))):(w.setCell ⟨R,0,none⟩ q).heap[R]?=some (.cells #[q,y] t (0,0)):=by
 obtain ⟨hlt,he⟩:=Array.getElem?_eq_some_iff.1 h
 rw [Array.getElem?_eq_getElem (by simpa [World.setCell] using hlt)]
 simp [World.setCell,Array.getElem_modify,he]
theorem hsetB {w:World} {R:Nat} {t:TypeId} {x y:Value} (q:Value) (h:w.heap[R]?=some (.cells #[x,y] t (0,0))):(w.setCell ⟨R,1,none⟩ q).heap[R]?=some (.cells #[x,q] t (0,0)):=by
 obtain ⟨hlt,he⟩:=Array.getElem?_eq_some_iff.1 h
 rw [Array.getElem?_eq_getElem (by simpa [World.setCell] using hlt)]
 simp [World.setCell,Array.getElem_modify,he]
theorem unfrozenB {w:World} {R i:Nat} {cs:Array Value} {t:TypeId} (h:w.heap[R]?=some (.cells cs t (0,0))):w.frozen? ⟨R,i,none⟩=false:=by simp [World.frozen?,h]
theorem put2 {w:World} {R:Nat} {t:TypeId} {p q:Value} (x y:Value) (h:w.heap[R]?=some (.cells #[p,q] t (0,0))):((w.setCell ⟨R,0,none⟩ x).setCell ⟨R,1,none⟩ y).cell? ⟨R,0,none⟩=some x∧((w.setCell ⟨R,0,none⟩ x).setCell ⟨R,1,none⟩ y).cell? ⟨R,1,none⟩=some y:=by
 have b:=hsetB y (hsetA x h)
 exact ⟨cell_of_row _ R 0 _ _ _ b,cell_of_row _ R 1 _ _ _ b⟩
theorem far2 (w:World) (B:Nat) (x y:Value) (k:Nat) (h:k≠B):((w.setCell ⟨B,0,none⟩ x).setCell ⟨B,1,none⟩ y).heap[k]?=w.heap[k]?:=(Below.heap_setCell _ _ _ _ h).trans (Below.heap_setCell _ _ _ _ h)
theorem newK (w:World) (o p:Obj):((w.alloc o).alloc p).heap[w.heap.size+1]?=some p:=by
 have h:=heap_alloc_new (w.alloc o) p
 rwa [show (w.alloc o).heap.size=w.heap.size+1 by simp] at h
end Go.Proofs.YticccnkanihpnaaDoor

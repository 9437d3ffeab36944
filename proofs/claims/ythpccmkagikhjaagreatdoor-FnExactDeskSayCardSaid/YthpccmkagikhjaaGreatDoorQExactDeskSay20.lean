import Derived.Test.YthpccmkagikhjaaGreatDoorQExactDeskSay2
import Derived.Test.YthpccmkagikhjaaGreatDoorQExactDeskSay3
import Derived.Test.YthpccmkagikhjaaGreatDoorQExactDeskSay4
import Derived.Test.YthpccmkagikhjaaGreatDoorQExactDeskSay5
import Derived.Test.YthpccmkagikhjaaGreatDoorQExactDeskSay11
import Derived.Test.YthpccmkagikhjaaGreatDoorQExactDeskSay12
import Derived.Test.YthpccmkagikhjaaGreatDoorQExactDeskSay19
import Derived.OwnWalk
namespace Go.Proofs.YthpccmkagikhjaaGreatDoor
set_option linter.unusedVariables false
open Go.RowKit
set_option maxRecDepth 100000
set_option maxHeartbeats 4000000
section
attribute [local go_sem ↓] Go.wp_at_zero Go.wp_at_succ
theorem infoB:(Tryz.prog.info? 197).map (fun i=>(i.zero,i.size,i.bytes))=some (some (.agg #[.int .i64 0,.int .i64 0]),2,16):=by kernel_rfl
theorem c_touches (a b p q:Int) (w:World) :
  Calls Tryz.prog 256 #[.agg #[.int .i64 a,.int .i64 b],.agg #[.int .i64 p,.int .i64 q]] w fun e w'=>e=.returned (.bool (b == p))∧Below w.heap.size w w':=by
 go_enter Tryz.func256,Tryz.ntmps256
 go_wp2_with fail
 go_ret
 refine ⟨rfl,?_⟩
 (repeat (first | exact rfl | exact Below.refl _ _ | (with_reducible refine Below.drew ?_) | (with_reducible refine Below.drewN ?_ _) | (with_reducible refine Below.alloc ?_ ?_ _) | (with_reducible refine Below.setCell ?_ ?_ _) | (show _<=_;focus (first | omega | (simp;done) | (simp;omega)))))
theorem c_mergedWith (a b p q:Int) (w:World) :
  Calls Tryz.prog 257 #[.agg #[.int .i64 a,.int .i64 b],.agg #[.int .i64 p,.int .i64 q]] w fun e w'=>e=.returned (.agg #[.int .i64 a,.int .i64 q])∧Below w.heap.size w w':=by
 go_enter Tryz.func257,Tryz.ntmps257
 go_wp2_with fail
 refine bodyPost_ret (v:=.agg #[.int .i64 a,.int .i64 q]) (by simp [results,Tryz.f257,go_sem]) rfl ?_
 refine ⟨rfl,?_⟩
 (repeat (first | exact rfl | exact Below.refl _ _ | (with_reducible refine Below.drew ?_) | (with_reducible refine Below.drewN ?_ _) | (with_reducible refine Below.alloc ?_ ?_ _) | (with_reducible refine Below.setCell ?_ ?_ _) | (show _<=_;focus (first | omega | (simp;done) | (simp;omega)))))
theorem c_row (a b:Int) (w:World) :
  Calls Tryz.prog 199 #[.agg #[.int .i64 a,.int .i64 b]] w fun e w'=>e=.returned (.slice (some ⟨w.heap.size+1,0,none⟩) 2 2)∧IO w' w.heap.size (.slice (some ⟨w.heap.size+1,0,none⟩) 2 2) [a,b]∧Below w.heap.size w w':=by
 go_enter Tryz.func199,Tryz.ntmps199
 go_wp2_with fail
 go_ret
 refine ⟨rfl,?_,?_⟩
 ·have:=IO.lit2 (w.alloc (.cells #[.int .i64 a,.int .i64 b] 197)) (base:=w.heap.size) (by simp) a b
  simpa using this
 (repeat (first | exact rfl | exact Below.refl _ _ | (with_reducible refine Below.drew ?_) | (with_reducible refine Below.drewN ?_ _) | (with_reducible refine Below.alloc ?_ ?_ _) | (with_reducible refine Below.setCell ?_ ?_ _) | (show _<=_;focus (first | omega | (simp;done) | (simp;omega)))))
def PO (w:World) (base:Nat) (v:Value) (B:List (Int×Int)):Prop:=w.ownsRow base 197 2 v B.length (flatC B)
theorem PO.nil (w:World) (base:Nat):PO w base (.slice none 0 0) []:=⟨rfl,.inl ⟨rfl,rfl⟩⟩
theorem PO.below {w w':World} {base B:Nat} {v:Value} {xs:List (Int×Int)} (h:PO w base v xs) (hb:Below B w w') (hB:w.heap.size<=B):PO w' base v xs:=owns_below h hb hB
theorem PO.mono {w:World} {base base':Nat} {v:Value} {xs:List (Int×Int)} (h:PO w base v xs) (hB:base'<=base):PO w base' v xs:=owns_mono h hB
theorem PO.alloc {w:World} {base:Nat} {v:Value} {xs:List (Int×Int)} (h:PO w base v xs) (o:Obj):PO (w.alloc o) base v xs:=World.ownsRow.alloc h o
theorem PO.drew {w:World} {base:Nat} {v:Value} {xs:List (Int×Int)} (h:PO w base v xs):PO w.drew base v xs:=h
theorem PO.kept {w w':World} {base:Nat} {row:Option Nat} {v:Value} {xs:List (Int×Int)} (h:PO w base v xs) (hg:w.grownBy w' row) (hr:∀ r,v.ownBlock=some r->row≠some r):PO w' base v xs:=by
 refine ⟨h.1,?_⟩
 have hl:=owns_lt h
 rcases h.2 with h2 | ⟨g,cap,cur,rfl,hgb,hh,rest⟩
 ·exact .inl h2
 ·have:=hl g (by simp [Value.ownBlock])
  exact .inr ⟨g,cap,cur,rfl,hgb,by rw [hg.block g (by omega) (fun e=>hr g (by simp [Value.ownBlock]) e.symm)];exact hh,rest⟩
theorem PO.cellsObj {w:World} {base:Nat} {v:Value} {xs:List (Int×Int)} (h:PO w base v xs) (r:Nat) (o:Obj) (hr:v.ownBlock=some r) (ho:w.heap[r]?=some o):o.isCells=true:=by
 rcases h.2 with ⟨rfl,_⟩ | ⟨g,cap,cur,rfl,hgb,hh,rest⟩
 ·simp [Value.ownBlock] at hr
 ·simp only [Value.ownBlock] at hr
  have e:g=r:=by simpa using hr
  subst e
  rw [hh] at ho;cases ho;rfl
theorem PO.form {w:World} {base:Nat} {v:Value} {L:List (Int×Int)} (h:PO w base v L):∃ A c,v=.slice A L.length c∧(0 < L.length->∃ g,A=some ⟨g,0,none⟩∧base<=g∧g < w.heap.size∧(∀ k,k < L.length->w.cell? ⟨g,k * 2,none⟩=some (.int .i64 (X L k))∧w.cell? ⟨g,k * 2+1,none⟩=some (.int .i64 (Y L k)))∧∀ j,w.frozen? ⟨g,j,none⟩=false):=by
 have hl:=owns_lt h
 rcases h.2 with ⟨rfl,h0⟩ | ⟨g,cap,cur,rfl,hg,hh,h1,h2,h3,h4⟩
 ·exact ⟨none,0,by rw [h0],fun hp=>by omega⟩
 ·refine ⟨_,cap,rfl,fun hp=>⟨g,rfl,hg,hl g (by simp [Value.ownBlock]),fun k hk=>?_,fun j=>World.ownsRow.frozenAt h j⟩⟩
  have:=flatC_at L k hk
  exact ⟨(World.ownsRow.cellAt h (k * 2) (by omega)).trans this.1,(World.ownsRow.cellAt h (k * 2+1) (by omega)).trans this.2⟩
theorem flatC_set2 (B:List (Int×Int)):∀ (k:Nat) (c:Int×Int),k < B.length->flatC (B.set k c)=((flatC B).set (k * 2) (.int .i64 c.1)).set (k * 2+1) (.int .i64 c.2):=by
 induction B with
 | nil=>intro k c hk;simp at hk
 | cons d B ih =>
  intro k c hk
  cases k with
  | zero=>rfl
  | succ k =>
   have:=ih k c (by simpa using hk)
   have e1:(k+1) * 2=k * 2+1+1:=by omega
   simp only [flatC,List.set_cons_succ,List.flatMap_cons,e1,List.cons_append,List.nil_append] at this ⊢
   rw [this]
theorem PO.store {w:World} {base g n c:Nat} {B:List (Int×Int)} (h:PO w base (.slice (some ⟨g,0,none⟩) n c) B) (k:Nat) (hk:k < B.length) (a b:Int) :
  PO ((w.setCell ⟨g,k * 2,none⟩ (.int .i64 a)).setCell ⟨g,k * 2+1,none⟩ (.int .i64 b)) base (.slice (some ⟨g,0,none⟩) n c) (B.set k (a,b)):=by
 have hn:n=B.length:=by
  rcases h.2 with ⟨h2,_⟩ | ⟨g',cap,cur,h2,_⟩
  ·cases h2
  ·injection h2
 subst hn
 have h1:=(World.ownsRow.stored (g:=g) (cap:=c) h (k * 2) (.int .i64 a)).1
 have h2:=(World.ownsRow.stored (g:=g) (cap:=c) h1 (k * 2+1) (.int .i64 b)).1
 unfold PO
 rw [List.length_set,flatC_set2 _ _ _ hk]
 exact h2
section
variable {w:World}
theorem app_P2 {ops:Array Oper} {rest:List Oper} {o:Oper} {a:Act} {Q:Exit->Act->World->Prop} (hgd:o.guard=none) (s x:Operand)
  (ho:o.op=.call { callee:=.builtin .append,args:=#[s,x],argTypes:=#[194,194] })
  (base:Nat) (v:Value) (L:List (Int×Int)) (p q:Int) (B:Nat) (hs:a.eval s=v) (hown:PO w base v L) (hx:a.eval x=.slice (some ⟨B,0,none⟩) 1 1)
  (hB:w.heap[B]?=some (.cells #[.int .i64 p,.int .i64 q] 197 (0,0))) (hlen:L.length<=1000000000000) (hbase:base<=w.heap.size)
  (h:∀ g cap w',PO w' base (.slice (some ⟨g,0,none⟩) (L.length+1) cap) (L++[(p,q)])->w.grownBy w' v.ownBlock->wpList Tryz.prog ops Q rest (a.put o.dst (.slice (some ⟨g,0,none⟩) (L.length+1) cap)) w') :
  wpList Tryz.prog ops Q (o::rest) a w:=by
 obtain ⟨i0,hi,hz0,hz1,hz2⟩:=info_parts infoB
 refine wpList_append_lies w hgd s x _ ho base 197 i0 _ 2 16 Tryz.underlying194 hi hz0 hz1 hz2 rfl (by decide) v L.length _ hs hown
  ⟨B,0,none⟩ 1 1 [.int .i64 p,.int .i64 q] hx rfl (World.news_of_block (cs:=#[.int .i64 p,.int .i64 q]) hB) (by simp [Value.oneCell']) (by decide) (by simp only [maxLen];omega) (by omega) hbase _ rfl ?_
 intro g cap w' h1 h2 _ _
 exact h g cap w' (by simpa [PO,flatC_snoc] using h1) h2
end
theorem grown_via {w w5 w7:World} {row:Option Nat} (hb:Below w.heap.size w w5) (h:w5.grownBy w7 row):w.grownBy w7 row :=
 ⟨h.os.trans hb.os,h.tape.trans hb.tape,h.output.trans hb.output,Nat.le_trans hb.size h.size,fun k hk hne=>(h.block k (Nat.lt_of_lt_of_le hk hb.size) hne).trans (hb.block k hk)⟩
theorem c_withPeriod (B:List (Int×Int)) (t:Nat) (base:Nat) (v:Value) (w:World) (hown:PO w base v B) (hbase:base<=w.heap.size) (hl:B.length<=1000000) :
  Calls Tryz.prog 233 #[v,.agg #[.int .i64 (t:Int),.int .i64 ((t:Int)+1)]] w fun e w'=>∃ v',e=.returned v'∧PO w' base v' (busyNext B t)∧w.grownBy w' v.ownBlock:=by
 obtain ⟨O,oc,rfl,hO⟩:=hown.form
 go_enter Tryz.func233,Tryz.ntmps233
 by_cases hB0:B.length=0
 ·have hq1:(B.length:Int) - 1 < 0:=by omega
  go_wp2_with fail
  have bB0:=heap_alloc_new w (.cells #[.int .i64 (t:Int),.int .i64 ((t:Int)+1)] 197)
  refine wp_region_wb (w.heap.size+1) (by kernel_rfl) (by kernel_rfl) ?_
  repeat (go_big_quiet_step (fail))
  refine wpQuiet_nil ?_
  rintro w5 ⟨⟨_,hb5⟩,rfl⟩
  have hbx:Below w.heap.size w w5:=((Below.refl _ w).alloc (Nat.le_refl _) _).trans (hb5.mono (by omega))
  have hz5:=hb5.size
  simp only [World.size_alloc] at hz5
  have bB5:=(hb5.block w.heap.size (by omega)).trans bB0
  have cB:=fun o=>cell_of_row w5 w.heap.size o _ _ _ bB5
  have cB0:=cB 0
  have cB1:=cB 1
  have own5:PO w5 base (.slice O B.length oc) B:=hown.below hbx (Nat.le_refl _)
  have hBe:B=[]:=List.eq_nil_of_length_eq_zero hB0
  have E2:=Lib.hid (show busyNext B (t:Int)=B++[((t:Int),(t:Int)+1)] by rw [hBe];rfl)
  have HX:=Lib.hid (And.intro hbx own5)
  have HL:=Lib.hid (show B.length<=1000000000000 by omega)
  clear cB hBe hbx own5 hb5 hown hO hl hB0
  go_wp2_with (refine app_P2 ?_ (.tmp 20) (.tmp 22) ?_ base (.slice O B.length oc) B (t:Int) ((t:Int)+1) w5.heap.size ?_ ?_ ?_ ?_ ?_ ?_ ?_;rfl;rfl;rfl;exact (HX.out.2.alloc _);rfl;exact (heap_alloc_new _ _);exact HL.out;exact (Nat.le_trans hbase (Nat.le_trans (by omega) (show w5.heap.size<=(w5.alloc _).heap.size by simp)));intro g7 cap w7 hown7 hgr7)
  go_ret
  exact ⟨_,rfl,by rw [E2.out];exact hown7,grown_via (HX.out.1.alloc (by omega) _) hgr7⟩
 ·have hpos:0 < B.length:=by omega
  obtain ⟨g0,rfl,hg0,hg0lt,hcl,hfz⟩:=hO hpos
  obtain ⟨d0,d1⟩:=hcl (B.length - 1) (by omega)
  have k0:decide ((B.length:Int) - 1 < 0)=false:=decide_eq_false (by omega)
  have k1:(0:Int)<=(B.length:Int) - 1:=by omega
  have k2:(B.length:Int) - 1 < (B.length:Int):=by omega
  have k5:((B.length:Int) - 1).toNat=B.length - 1:=by omega
  have bB0:=heap_alloc_new w (.cells #[.int .i64 (t:Int),.int .i64 ((t:Int)+1)] 197)
  have hb1:Below w.heap.size w (w.alloc (.cells #[.int .i64 (t:Int),.int .i64 ((t:Int)+1)] 197)):=(Below.refl _ w).alloc (Nat.le_refl _) _
  have hs1:(w.alloc (.cells #[.int .i64 (t:Int),.int .i64 ((t:Int)+1)] 197)).heap.size=w.heap.size+1:=by simp
  have e0:=WB.cell (B:=w.heap.size+1) (show g0 < w.heap.size+1 by omega) ((hb1.cell (p:=⟨g0,(B.length - 1) * 2,none⟩) hg0lt).trans d0)
  have e1:=WB.cell (B:=w.heap.size+1) (show g0 < w.heap.size+1 by omega) ((hb1.cell (p:=⟨g0,(B.length - 1) * 2+1,none⟩) hg0lt).trans d1)
  have e2:=WB.cell (w:=w.alloc (.cells #[.int .i64 (t:Int),.int .i64 ((t:Int)+1)] 197)) (B:=w.heap.size+1) (b:=w.heap.size) (o:=0) (v:=.int .i64 (t:Int)) (by omega) (by simp [cell_of_row _ w.heap.size 0 _ _ _ bB0])
  have e3:=WB.cell (w:=w.alloc (.cells #[.int .i64 (t:Int),.int .i64 ((t:Int)+1)] 197)) (B:=w.heap.size+1) (b:=w.heap.size) (o:=1) (v:=.int .i64 ((t:Int)+1)) (by omega) (by simp [cell_of_row _ w.heap.size 1 _ _ _ bB0])
  by_cases hy:Y B (B.length - 1)=t
  ·have hyb:(Y B (B.length - 1) == (t:Int))=true:=beq_iff_eq.2 hy
   have HT:=Lib.hid (fun W=>by have K:=c_touches (X B (B.length - 1)) (Y B (B.length - 1)) (t:Int) ((t:Int)+1) W;rw [hyb] at K;exact K)
   have E2:=Lib.hid (show busyNext B (t:Int)=B.set (B.length - 1) (X B (B.length - 1),(t:Int)+1) by rw [busyNext,if_pos (show lastIs B (t:Int)=true from decide_eq_true ⟨hpos,hy⟩)])
   clear hcl hy hyb hO
   go_wp2_with fail
   refine wp_region_wb (w.heap.size+1) (by kernel_rfl) (by kernel_rfl) ?_
   repeat (go_big_quiet_step ((go_at_call 256;exact Calls.inB (Nat.le_of_eq hs1.symm) (HT.out _))))
   refine wpQuiet_nil ?_
   rintro w5 ⟨⟨_,hb5⟩,rfl⟩
   have hbx:Below w.heap.size w w5:=hb1.trans (hb5.mono (by omega))
   have hz5:=hb5.size
   simp only [World.size_alloc] at hz5
   have hz5':w.heap.size+1<=w5.heap.size:=hz5
   have bB5:=(hb5.block w.heap.size (by omega)).trans bB0
   have own5:PO w5 base (.slice (some ⟨g0,0,none⟩) B.length oc) B:=hown.below hbx (Nat.le_refl _)
   have e4:=WB.cell (w:=w5) (B:=w.heap.size+1) (show g0 < w.heap.size+1 by omega) ((hbx.cell (p:=⟨g0,(B.length - 1) * 2,none⟩) hg0lt).trans d0)
   have e5:=WB.cell (w:=w5) (B:=w.heap.size+1) (show g0 < w.heap.size+1 by omega) ((hbx.cell (p:=⟨g0,(B.length - 1) * 2+1,none⟩) hg0lt).trans d1)
   have e6:=WB.cell (w:=w5) (B:=w.heap.size+1) (b:=w.heap.size) (o:=0) (v:=.int .i64 (t:Int)) (by omega) (by simp [cell_of_row _ w.heap.size 0 _ _ _ bB5])
   have e7:=WB.cell (w:=w5) (B:=w.heap.size+1) (b:=w.heap.size) (o:=1) (v:=.int .i64 ((t:Int)+1)) (by omega) (by simp [cell_of_row _ w.heap.size 1 _ _ _ bB5])
   have HM:=Lib.hid (fun W=>c_mergedWith (X B (B.length - 1)) (Y B (B.length - 1)) (t:Int) ((t:Int)+1) W)
   clear e0 e1 e2 e3 bB0 bB5 hb5 hz5 hb1
   go_wp2_with fail
   refine wp_region_wb_tail (w.heap.size+1) 9 (by kernel_rfl) (by kernel_rfl) ?_
   simp only [List.take_succ_cons,List.take_zero,List.drop_succ_cons,List.drop_zero]
   repeat (go_big_quiet_step ((go_at_call 257;exact Calls.inB hz5' (HM.out _))))
   refine wpQuiet_nil ?_
   rintro w6 ⟨⟨_,hb6⟩,rfl⟩
   have hby:Below w.heap.size w w6:=hbx.trans (hb6.mono (by omega))
   have own6:PO w6 base (.slice (some ⟨g0,0,none⟩) B.length oc) B:=hown.below hby (Nat.le_refl _)
   have f6:=fun j=>World.ownsRow.frozenAt own6 j
   have f0:=f6 ((B.length - 1) * 2)
   have f1:=f6 ((B.length - 1) * 2+1)
   have c0:=(hby.cell (p:=⟨g0,(B.length - 1) * 2,none⟩) hg0lt).trans d0
   have c1:=(hby.cell (p:=⟨g0,(B.length - 1) * 2+1,none⟩) hg0lt).trans d1
   have HO:=Lib.hid (own6.store (B.length - 1) (by omega) (X B (B.length - 1)) ((t:Int)+1))
   have HG:=Lib.hid (grown_via (row:=some g0) hby (⟨rfl,rfl,rfl,by simp [World.setCell],fun b _ hb=>(Below.heap_setCell _ _ _ _ (fun e=>hb (by rw [e]))).trans (Below.heap_setCell _ _ _ _ (fun e=>hb (by rw [e])))⟩:w6.grownBy ((w6.setCell ⟨g0,(B.length - 1) * 2,none⟩ (.int .i64 (X B (B.length - 1)))).setCell ⟨g0,(B.length - 1) * 2+1,none⟩ (.int .i64 ((t:Int)+1))) (some g0)))
   clear f6 e4 e5 e6 e7 d0 d1 own6 own5 hown hby hb6 hbx
   go_wp2_with fail
   go_ret
   exact ⟨_,rfl,by rw [E2.out];exact HO.out,HG.out⟩
  ·have hyb:(Y B (B.length - 1) == (t:Int))=false:=beq_eq_false_iff_ne.2 hy
   have HT:=Lib.hid (fun W=>by have K:=c_touches (X B (B.length - 1)) (Y B (B.length - 1)) (t:Int) ((t:Int)+1) W;rw [hyb] at K;exact K)
   have E2:=Lib.hid (show busyNext B (t:Int)=B++[((t:Int),(t:Int)+1)] by rw [busyNext,if_neg (by simp [lastIs,hy])])
   clear hcl hy hyb d0 d1 hO
   go_wp2_with fail
   refine wp_region_wb (w.heap.size+1) (by kernel_rfl) (by kernel_rfl) ?_
   repeat (go_big_quiet_step ((go_at_call 256;exact Calls.inB (Nat.le_of_eq hs1.symm) (HT.out _))))
   refine wpQuiet_nil ?_
   rintro w5 ⟨⟨_,hb5⟩,rfl⟩
   have hbx:Below w.heap.size w w5:=hb1.trans (hb5.mono (by omega))
   have hz5:=hb5.size
   simp only [World.size_alloc] at hz5
   have bB5:=(hb5.block w.heap.size (by omega)).trans bB0
   have cB:=fun o=>cell_of_row w5 w.heap.size o _ _ _ bB5
   have cB0:=cB 0
   have cB1:=cB 1
   have own5:PO w5 base (.slice (some ⟨g0,0,none⟩) B.length oc) B:=hown.below hbx (Nat.le_refl _)
   have HX:=Lib.hid (And.intro hbx own5)
   have HL:=Lib.hid (show B.length<=1000000000000 by omega)
   clear cB hbx own5 hb5 hown hl hB0 hb1 e0 e1 e2 e3
   go_wp2_with (refine app_P2 ?_ (.tmp 20) (.tmp 22) ?_ base (.slice (some ⟨g0,0,none⟩) B.length oc) B (t:Int) ((t:Int)+1) w5.heap.size ?_ ?_ ?_ ?_ ?_ ?_ ?_;rfl;rfl;rfl;exact (HX.out.2.alloc _);rfl;exact (heap_alloc_new _ _);exact HL.out;exact (Nat.le_trans hbase (Nat.le_trans (by omega) (show w5.heap.size<=(w5.alloc _).heap.size by simp)));intro g7 cap w7 hown7 hgr7)
   go_ret
   exact ⟨_,rfl,by rw [E2.out];exact hown7,grown_via (HX.out.1.alloc (by omega) _) hgr7⟩
end
section
open Go.RowKit Go.Shelf
attribute [local go_sem] Oper.semAt_some
def busyOf (L:List (Int×Int)) (pre:List Nat):List (Int×Int):=pre.foldl (fun B t=>if wk L t=0 then B else busyNext B t) []
theorem busyOf_snoc (L:List (Int×Int)) (pre:List Nat) (t:Nat):busyOf L (pre++[t])=if wk L t=0 then busyOf L pre else busyNext (busyOf L pre) t:=by simp [busyOf]
theorem busyOf_range (L:List (Int×Int)) (k:Nat):busyOf L (List.range k)=busyT L k:=by
 induction k with
 | zero=>rfl
 | succ k ih=>rw [List.range_succ,busyOf_snoc,ih];rfl
theorem busyNext_len (B:List (Int×Int)) (t:Int):(busyNext B t).length<=B.length+1:=by
 simp only [busyNext]
 split
 ·rw [List.length_set];omega
 ·simp
theorem busyOf_len (L:List (Int×Int)) (pre:List Nat):(busyOf L pre).length<=pre.length:=by
 have key:∀ n,∀ pre:List Nat,pre.length=n->(busyOf L pre).length<=pre.length:=by
  intro n
  induction n with
  | zero=>intro pre hp;rw [List.eq_nil_of_length_eq_zero hp];simp [busyOf]
  | succ n ih =>
   intro pre hp
   rcases List.eq_nil_or_concat pre with rfl | ⟨pre',x,rfl⟩
   ·simp at hp
   ·rw [List.concat_eq_append] at hp ⊢
    have i:=ih pre' (by simpa using hp)
    rw [busyOf_snoc,List.length_append]
    have:=busyNext_len (busyOf L pre') x
    split <;> simp <;> omega
 exact key _ pre rfl
theorem busyOf_all {L:List (Int×Int)} (h:cOk L=true):busyOf L (List.range 201)=busyP L:=by
 have hl:=lastLeave_bd h
 have e:=wk_end h (t:=200) (by omega)
 rw [busyOf_range,busyP_yes h]
 show (if wk L 200=0 then busyT L 200 else busyNext (busyT L 200) 200)=_
 rw [if_pos e]
def HoldsP (W:World) (Bx base:Nat) (B:List (Int×Int)):Prop:=∃ v,Boxed W Bx 194 v∧PO W base v B
theorem HoldsP.own {β:Type} (B0 Bx base:Nat) (f:β->List (Int×Int)):OwnFrom B0 (fun s W=>HoldsP W Bx base (f s)):=by
 intro s W W' row ⟨v,h1,h2⟩ hg hr
 refine ⟨v,h1.kept hg (fun e=>?_),h2.kept hg (fun r hv e=>?_)⟩
 ·obtain ⟨_,o,ho,hc⟩:=hr Bx e.symm
  rw [show W.heap[Bx]?=_ from h1] at ho;cases ho;cases hc
 ·obtain ⟨_,o,ho,hc⟩:=hr r e
  rw [h2.cellsObj r o hv ho] at hc;cases hc
theorem c_busyPeriods (L:List (Int×Int)) (A:Option Addr) (c:Nat) (w:World) (hA:Cs w w.heap.size A L) (hn:L.length<=140737488351232) :
  Calls Tryz.prog 198 #[.slice A L.length c] w fun e w'=>∃ v,e=.returned v∧PO w' w.heap.size v (busyP L)∧Below w.heap.size w w':=by
 by_cases h:cOk L=true
 ·have H:=Lib.hid h;clear h
  refine (callsIn_wide (n:=6)).1 ?_
  refine callsIn_of_wp_marks Tryz.func198 rfl trivial ?_ rfl
  simp only [Tryz.ntmps198,List.size_toArray,List.length_cons,List.length_nil,Nat.reduceAdd,Nat.reduceSub,Array.replicate_succ,Array.replicate_zero,List.push_toArray,List.append_toArray,List.nil_append,List.cons_append]
  gi_wp2_with (refine ⟨trivial,?_⟩;gi_at_call 61;refine (callsIn_wide.2 (c_iCustomersOk L A c _ hA hn)).mono ?_;rw [H.out];rintro e w1 ⟨rfl,hb1⟩)
  have hbs:=hb1.size
  gi_wp2_with (refine ⟨trivial,?_⟩;gi_at_call 202;refine (workFrom0_in _ _ trivial rfl _ _ _ _).mono ?_;rintro e w' ⟨rfl,rfl⟩)
  obtain ⟨W0,hW0⟩:∃ W0,(w1.alloc (.cells #[.slice none 0 0] 194)).alloc (.cells #[.slice A L.length c] 28)=W0:=⟨_,rfl⟩
  have bA0:=(Boxed.new w1 194 (.slice none 0 0)).alloc (.cells #[.slice A L.length c] 28)
  have bL0:=heap_alloc_new (w1.alloc (.cells #[.slice none 0 0] 194)) (.cells #[.slice A L.length c] 28)
  simp only [World.size_alloc] at bL0
  have hB0:Below w.heap.size w ((w1.alloc (.cells #[.slice none 0 0] 194)).alloc (.cells #[.slice A L.length c] 28)):=(hb1.alloc hbs _).alloc (by simp;omega) _
  have hsz:((w1.alloc (.cells #[.slice none 0 0] 194)).alloc (.cells #[.slice A L.length c] 28)).heap.size=w1.heap.size+2:=by simp
  rw [hW0] at bA0 bL0 hB0 hsz ⊢
  clear hW0 hb1
  refine wpIn_rangeFunc_ownH rfl (by omega) (gf:=234) (lb:=#[.pointer (some ⟨w1.heap.size+1,0,none⟩)]) rfl trivial (enters_of Tryz.func234 (by kernel_rfl) rfl)
   (workFrom0_stops Fence.wide _ trivial rfl (by omega) (w1.heap.size+1) w.heap.size c A L H.out W0 (by omega) bL0 (hA.below hB0)) Kpt.t (Kpt.b (by omega) (by omega)) (Below.refl _ _) (fun _=>rfl)
   (fun pre W=>HoldsP W w1.heap.size (w1.heap.size+2) (busyOf L (pre.map Fin.val))∧(Below w.heap.size w W∧W0.heap.size<=W.heap.size))
   (fun _ _ _=>False)
   (OwnFrom.and (HoldsP.own _ _ _ _) (OwnFrom.and (ownFrom_below (Nat.le_refl _) (by omega)) (fun s A B row hs hg hr=>Nat.le_trans hs hg.size)))
   (fun _ _ _ _ _ hs _ _=>hs)
   ⟨⟨_,bA0,PO.nil _ _⟩,hB0,Nat.le_refl _⟩
   (fun x a' W=>a'={ tmps:=#[.slice A L.length c,undef,.slice none 0 0,.pointer (some ⟨w1.heap.size,0,none⟩),.int .i64 (x.1:Int),.int .i64 (wk L x.1),.slice A L.length c,.bool true,.bool false,.slice A L.length c,.func (.func 234) #[] #[.pointer (some ⟨w1.heap.size+1,0,none⟩)],.int .i64 (x.1:Int),.int .i64 (wk L x.1),undef,undef,undef,undef,undef,undef,undef,undef,undef],defers:=[] })
   (fun x a' _ P Q row hs hg hr=>hs)
   ?assign ?body ?done ?stop
  case assign =>
   rintro l pre x W K hI hK
   gi_wp2
   exact hK _ _ (KeepsFrom.refl _ _) ⟨Below.refl _ W,rfl⟩ hI rfl
  case body =>
   rintro l pre x a' W hl ⟨r,hr⟩ ⟨⟨v,bA,hown⟩,hB1,hZ⟩ rfl hlt
   have cA:=bA.cell
   have fA:=bA.frozen
   have bx:=x.2
   have hbl:=busyOf_len L (pre.map Fin.val)
   rw [List.length_map] at hbl
   have HS:=Lib.hid (busyOf_snoc L (pre.map Fin.val) x.1)
   have bw:=wk_nn H.out x.1
   by_cases hw:wk L x.1=0
   ·have hw':decide (0 < wk L x.1)=false:=decide_eq_false (by omega)
    have HS2:=Lib.hid (show busyOf L ((pre++[x]).map Fin.val)=busyOf L (pre.map Fin.val) by rw [List.map_append,List.map_cons,List.map_nil,HS.out,if_pos hw])
    clear HS hw
    gi_wp2
    exact ⟨KeepsFrom.refl _ _,⟨Below.refl _ W,rfl⟩,⟨v,bA,by rw [HS2.out];exact hown⟩,hB1,(by omega)⟩
   ·have hw':0 < wk L x.1:=by omega
    have HS2:=Lib.hid (show busyOf L ((pre++[x]).map Fin.val)=busyNext (busyOf L (pre.map Fin.val)) x.1 by rw [List.map_append,List.map_cons,List.map_nil,HS.out,if_neg hw])
    have HC:=Lib.hid (c_withPeriod (busyOf L (pre.map Fin.val)) x.1 (w1.heap.size+2) v W hown (by omega) (by omega))
    have hbv:=owns_base hown
    have hcv:=hown.cellsObj
    clear HS hw
    gi_wp2_with (refine ⟨trivial,?_⟩;gi_at_call 233;refine (callsIn_wide.2 HC.out).mono ?_;rintro e w5 ⟨v5,rfl,hown5,hgr5⟩;obtain ⟨O5,c5,rfl,-⟩:=hown5.form;have bA5:=bA.kept hgr5 (fun e=>by have:=hbv _ e.symm;omega);have cA5:=bA5.cell;have fA5:=bA5.frozen)
    refine ⟨((KeepsOthers.of_grownBy hgr5 (fun j o e ho=>hcv j o e ho)).trans (KeepsOthers.setCell _ _ _)).from _,⟨?_,?_⟩,⟨_,bA5.set _,?_⟩,?_,?_⟩
    ·exact ((Below.refl _ W).grown hgr5 hB1.size (fun k e=>by have:=hbv k e;omega)).setCell (p:=⟨w1.heap.size,0,none⟩) hbs _
    ·exact (Below.heap_setCell _ _ _ _ (show w1.heap.size+1≠w1.heap.size by omega)).trans (hgr5.block _ (by omega) (fun e=>by have:=hbv _ e.symm;omega))
    ·rw [HS2.out]
     exact hown5.kept (grownBy_setCell' _ _ _) (fun r hr e=>by have:=owns_base hown5 r hr;cases e;omega)
    ·exact (hB1.grown hgr5 hB1.size (fun k e=>by have:=hbv k e;omega)).setCell (p:=⟨w1.heap.size,0,none⟩) hbs _
    ·have:=hgr5.size;simp [World.setCell];omega
  case done =>
   rintro D ys W hD hys ⟨⟨v,bA,hown⟩,hB1,hZ⟩ hK
   have cA:=bA.cell
   rw [hys,busyOf_all H.out] at hown
   gi_wp2
   refine ⟨by simp,.inl ⟨_,_,rfl,run_takeDeferred hK,?_⟩⟩
   refine ⟨_,results_tmp rfl _ _ _,_,rfl,?_,hB1.trans (belowK_b (w:=w) (Nat.le_refl _) W D _ _ (by omega) hK rfl rfl)⟩
   exact (hown.mono (by omega)).kept (grownBy_putObj' W D _) (fun r hv e=>by cases e;have:=hown.cellsObj _ _ hv hK;cases this)
  case stop =>
   rintro D cd pre W _ _ h _
   exact h.elim
 ·have hno:cOk L=false:=by simpa using h
  have HV:=Lib.hid (busyP_no hno)
  have H:=Lib.hid hno;clear h hno
  go_enter Tryz.func198,Tryz.ntmps198
  go_wp2_with fail
  refine (c_iCustomersOk L A c _ hA hn).mono ?_
  rintro e w1 ⟨rfl,hb1⟩
  rw [H.out]
  go_wp2_with fail
  go_ret
  exact ⟨_,rfl,by rw [HV.out];exact PO.nil _ _,hb1⟩
end
section
attribute [local go_sem ↓] Go.wp_at_zero Go.wp_at_succ
theorem rows_take {B:List (Int×Int)} {k:Nat} (h:k < B.length):rows (B.take (k+1))=rows (B.take k)++[[X B k,Y B k]]:=by
 have e:B.take (k+1)=B.take k++[B[k]]:=by rw [List.take_add_one];simp [h]
 rw [e,rows_app]
 simp [X,Y,h]
theorem c_iBusyOf (L:List (Int×Int)) (A:Option Addr) (c:Nat) (w:World) (hA:Cs w w.heap.size A L) (hn:L.length<=140737488351232) :
  Calls Tryz.prog 168 #[.slice A L.length c] w fun e w'=>∃ v,e=.returned v∧(∃ vs,IOO w' w.heap.size v (rows (busyP L)) vs)∧Below w.heap.size w w':=by
 have hbl:=busyP_len L
 have KB:=Lib.hid (c_busyPeriods L A c w hA hn)
 generalize busyP L=B at KB hbl ⊢
 go_enter Tryz.func168,Tryz.ntmps168
 go_wp2_with fail
 refine KB.out.mono ?_
 rintro e w1 ⟨v1,rfl,o1,hb1⟩
 have hs1:=hb1.size
 obtain ⟨O,oc,rfl,hO⟩:=o1.form
 clear o1 KB
 have HO:=Lib.hid hO
 clear hO
 go_wp2_with fail
 go_loopw [3,9] (fun o i wr=>∃ (k:Nat) (vs:List Value),k<=B.length∧i=.int .i64 k∧IOO wr w1.heap.size o (rows (B.take k)) vs∧Below w1.heap.size w1 wr)
  (fun _ i _=>B.length - (intOf i).toNat)
 case atStart=>exact ⟨0,[],by omega,rfl,by simpa [rows] using IOO.nil w1 w1.heap.size,Below.refl _ _⟩
 case round =>
  obtain ⟨k,vs,hk,rfl,hown,hb⟩:=hrel
  have hsz:=hb.size
  by_cases hlt:k < B.length
  ·obtain ⟨g0,rfl,hg0,hg0lt,hcl,-⟩:=HO.out (by omega)
   have c1:=(hb.cell (p:=⟨g0,k * 2,none⟩) hg0lt).trans (hcl k hlt).1
   have c2:=(hb.cell (p:=⟨g0,k * 2+1,none⟩) hg0lt).trans (hcl k hlt).2
   have p1:(0:Int)<=(k:Int):=by omega
   have p2:(k:Int) < (B.length:Int):=by omega
   have hlen:(rows (B.take k)).length<=1000000000:=by rw [rows_len,List.length_take];omega
   have E:=Lib.hid (rows_take hlt)
   clear hcl
   go_wp2_with fail
   refine (c_row (X B k) (Y B k) _).mono ?_
   rintro e w5 ⟨rfl,hio,hb5⟩
   simp only [World.size_alloc] at hio
   have hba:Below wr.heap.size wr (wr.alloc (.cells #[.int .i64 (X B k),.int .i64 (Y B k)] 197)):=(Below.refl _ wr).alloc (Nat.le_refl _) _
   have hbx:Below wr.heap.size wr w5:=hba.trans (hb5.mono (by simp))
   have hbz:Below wr.heap.size wr (w5.alloc (.cells #[.slice (some ⟨wr.heap.size+1+1,0,none⟩) 2 2] 85)):=hbx.alloc hbx.size _
   have hio2:IO (w5.alloc (.cells #[.slice (some ⟨wr.heap.size+1+1,0,none⟩) 2 2] 85)) w1.heap.size (.slice (some ⟨wr.heap.size+1+1,0,none⟩) 2 2) [X B k,Y B k]:=(hio.mono (by omega)).alloc _
   have hsl:∀ r,(Value.slice (some ⟨wr.heap.size+1+1,0,none⟩) 2 2).ownBlock=some r->wr.heap.size<=r:=by intro r e;simp [Value.ownBlock] at e;omega
   have hbs:=hbz.size
   have HU:=Lib.hid (And.intro hbz (And.intro hio2 (And.intro hsl (And.intro hlen (Nat.le_trans hsz hbs)))))
   have HSP:=Lib.hid (show Sep w1.heap.size w1.heap.size u3 from fun r e=>.inr (owns_base hown.row r e))
   clear hba hbx hbz hio2 hsl hbs hb5 hio hlen
   go_wp2_with (refine app_OO ?_ (.tmp 13) (.tmp 16) ?_ w1.heap.size u3 (rows (B.take k)) vs wr (.slice (some ⟨wr.heap.size+1+1,0,none⟩) 2 2) [X B k,Y B k] w5.heap.size ?_ ?_ ?_ ?_ ?_ ?_ ?_ ?_ ?_ ?_ w1.heap.size w1.heap.size w1 ?_ ?_ ?_ ?_;rfl;rfl;rfl;exact hown;exact HU.out.1;exact HU.out.2.1;exact HU.out.2.2.1;rfl;rfl;exact (heap_alloc_new _ _);exact HU.out.2.2.2.1;exact HU.out.2.2.2.2;exact HSP.out;exact (fun b h1 h2=>absurd h1 (by omega));exact HU.out.2.2.2.2;intro g7 cap w7 hown7 hb70 hsep7 hmid7)
   go_roundw
   case rel=>exact ⟨k+1,_,by omega,by go_num,by rw [E.out];exact hown7,(hb.trans (HU.out.1.mono hsz)).trans hb70⟩
   case measure=>simp [intOf];omega
  ·have hlf:¬ ((k:Int) < (B.length:Int)):=by omega
   go_wp2_with fail
   go_ret
   refine ⟨_,rfl,⟨vs,?_⟩,hb1.trans (hb.mono hs1)⟩
   have e:B.take k=B:=List.take_of_length_le (by omega)
   rw [e] at hown
   exact hown.mono hs1
end
section
attribute [local go_sem ↓] Go.wp_at_zero Go.wp_at_succ
end
section
end
section
attribute [local go_sem ↓] Go.wp_at_zero Go.wp_at_succ
section
variable {w:World}
theorem app_U {ops:Array Oper} {rest:List Oper} {o:Oper} {a:Act} {Q:Exit->Act->World->Prop} (hgd:o.guard=none) (s x:Operand)
  (ho:o.op=.call { callee:=.builtin .append,args:=#[s,x],argTypes:=#[225,225] })
  (base:Nat) (v:Value) (xs:List Int) (y:Int) (B:Nat) (hs:a.eval s=v) (hown:IO w base v xs) (hx:a.eval x=.slice (some ⟨B,0,none⟩) 1 1)
  (hB:w.heap[B]?=some (.cells #[.int .i64 y] 3 (0,0))) (hlen:xs.length<=1000000000000) (hbase:base<=w.heap.size)
  (h:∀ g cap w',IO w' base (.slice (some ⟨g,0,none⟩) (xs.length+1) cap) (xs++[y])->w.grownBy w' v.ownBlock->Below base w w'->wpList Tryz.prog ops Q rest (a.put o.dst (.slice (some ⟨g,0,none⟩) (xs.length+1) cap)) w') :
  wpList Tryz.prog ops Q (o::rest) a w:=by
 obtain ⟨i0,hi,hz0,hz1,hz2⟩:=info_parts infoI
 refine wpList_append_lies w hgd s x _ ho base 3 i0 _ 1 8 Tryz.underlying225 hi hz0 hz1 hz2 rfl (by decide) v xs.length _ hs hown
  ⟨B,0,none⟩ 1 1 [.int .i64 y] hx rfl (World.news_of_block (cs:=#[.int .i64 y]) hB) (by simp [Value.oneCell']) (by decide) (by simp only [maxLen];omega) (by omega) hbase _ rfl ?_
 intro g cap w' h1 h2 _ _
 exact h g cap w' (by simpa [IO] using h1) h2 ((Below.refl _ _).grown h2 hbase (owns_base hown))
end
theorem c_needsOf (L:List (Int×Int)) (A:Option Addr) (c:Nat) (w:World) (hA:Cs w w.heap.size A L) (hn:L.length<=1000000000000) :
  Calls Tryz.prog 227 #[.slice A L.length c] w fun e w'=>∃ v,e=.returned v∧IO w' w.heap.size v (needs L)∧Below w.heap.size w w':=by
 go_enter Tryz.func227,Tryz.ntmps227
 go_wp2_with fail
 go_loopw [3,8] (fun o i wr=>∃ k:Nat,k<=L.length∧i=.int .i64 k∧IO wr w.heap.size o (needsTo L k)∧Below w.heap.size w wr) (fun _ i _=>L.length - (intOf i).toNat)
 case atStart=>exact ⟨0,by omega,rfl,IO.nil _ _,Below.refl _ _⟩
 case round =>
  obtain ⟨k,hk,rfl,hown,hb⟩:=hrel
  have hsz:=hb.size
  by_cases hlt:k < L.length
  ·obtain ⟨b,off,rfl,hlb,hc⟩:=hA (by omega)
   have c1:=(hb.cell (p:=⟨b,off+k * 2,none⟩) hlb).trans (hc k hlt).1
   have c2:=(hb.cell (p:=⟨b,off+k * 2+1,none⟩) hlb).trans (hc k hlt).2
   have q5:(needsTo L k).length<=1000000000000:=by rw [needsTo_len (by omega)];omega
   have hnew:((wr.alloc (.cells #[.int .i64 (X L k),.int .i64 (Y L k)] 100)).alloc (.cells #[.int .i64 (Y L k)] 3)).heap[wr.heap.size+1]?=some (.cells #[.int .i64 (Y L k)] 3 (0,0)):=by
    have:=heap_alloc_new (wr.alloc (.cells #[.int .i64 (X L k),.int .i64 (Y L k)] 100)) (.cells #[.int .i64 (Y L k)] 3)
    simpa using this
   have hlz:w.heap.size<=((wr.alloc (.cells #[.int .i64 (X L k),.int .i64 (Y L k)] 100)).alloc (.cells #[.int .i64 (Y L k)] 3)).heap.size:=by simp;omega
   clear hc
   go_wp2_with (refine app_U ?_ (.tmp 12) (.tmp 15) ?_ w.heap.size u3 (needsTo L k) (Y L k) (wr.heap.size+1) ?_ ?_ ?_ ?_ ?_ ?_ ?_;rfl;rfl;rfl;exact ((hown.alloc _).alloc _);rfl;exact hnew;exact q5;exact hlz;intro g7 cap w7 hown7 hgr7 hb7)
   go_roundw
   case rel =>
    refine ⟨k+1,by omega,by go_num,by rw [needs_take_succ hlt];exact hown7,?_⟩
    refine Below.trans ?_ hb7
    (repeat (first | exact hb | exact Below.refl _ _ | (with_reducible refine Below.drew ?_) | (with_reducible refine Below.drewN ?_ _) | (with_reducible refine Below.alloc ?_ ?_ _) | (with_reducible refine Below.setCell ?_ ?_ _) | (show _<=_;focus (first | omega | (simp;done) | (simp;omega)))))
   case measure=>simp [intOf];omega
  ·have hlf:¬ ((k:Int) < (L.length:Int)):=by omega
   have e:needsTo L k=needs L:=List.take_of_length_le (by rw [needs_len];omega)
   rw [e] at hown
   go_wp2_with fail
   go_ret
   exact ⟨_,rfl,hown,hb⟩
theorem c_serve (lf:List Int) (who:Int) (base:Nat) (v:Value) (w:World) (hown:IO w base v lf) (hr:who=-1∨(0<=who∧who < lf.length∧0<=Z lf who.toNat∧Z lf who.toNat<=1000)) (hn:lf.length<=1000000) :
  Calls Tryz.prog 232 #[v,.int .i64 who] w fun e w'=>(∃ r,e=.returned r)∧IO w' base v (stepL lf who)∧w.grownBy w' v.ownBlock:=by
 rcases hr with rfl | ⟨h0,h1,h2,h3⟩
 ·go_enter Tryz.func232,Tryz.ntmps232
  go_wp2_with fail
  go_end0
  exact ⟨⟨_,rfl⟩,by rw [show stepL lf (-1)=lf by simp [stepL]];exact hown,World.grownBy.refl _ _⟩
 ·obtain ⟨p,rfl⟩:=Int.eq_ofNat_of_zero_le h0
  have e0:((p:Int)).toNat=p:=by simp
  rw [e0] at h2 h3
  have E:=Lib.hid (show stepL lf (p:Int)=lf.set p (Z lf p - 1) by simp [stepL])
  obtain ⟨G,g,rfl,hg1,hG⟩:=hown.formG
  obtain ⟨gb,rfl,-,hgb,hgc⟩:=hG (by omega)
  have c0:=hgc p (by omega)
  have fz:=hown.cells.2.2
  have f0:=fz p
  have p1:((p:Int) == -1)=false:=beq_eq_false_iff_ne.2 (by omega)
  have q7:IntKind.i64.wrap (Z lf p - 1)=Z lf p - 1:=IntWalk.i64_in _ (by omega)
  have HO:=Lib.hid hown
  clear hgc fz hown hG
  go_enter Tryz.func232,Tryz.ntmps232
  go_wp2_with fail
  go_end0
  rw [E.out]
  exact ⟨⟨_,rfl⟩,HO.out.store p _,grown_set _ _ _ _⟩
theorem c_gt0 (x:Int) (w:World):Calls Tryz.prog 255 #[.int .i64 x] w fun e w'=>e=.returned (.bool (decide (0 < x)))∧w=w':=by
 go_enter Tryz.func255,Tryz.ntmps255
 go_wp2_with fail
 go_ret
 exact ⟨rfl,rfl⟩
theorem noneLeft_succ (lf:List Int) (n:Nat):noneLeft lf (n+1)=(noneLeft lf n && decide (Z lf n<=0)):=rfl
theorem c_indexLeft (lf:List Int) (G:Option Addr) (BG g:Nat) (w:World) (hG:Is w BG G lf) (hn:lf.length<=140737488351232) :
  Calls Tryz.prog 263 #[.slice G lf.length g,.func (.func 255) #[] #[]] w fun e w'=>(∃ i:Int,e=.returned (.int .i64 i)∧decide (0<=i)=!noneLeft lf lf.length)∧w=w':=by
 go_enter Tryz.func263,Tryz.ntmps263
 go_wp2_with fail
 go_loopw [8] (fun i wr=>∃ k:Nat,k<=lf.length∧i=.int .i64 k∧Hid (noneLeft lf k=true)∧wr=w) (fun i _=>lf.length - (intOf i).toNat)
 case atStart=>exact ⟨0,by omega,rfl,rfl,rfl⟩
 case round =>
  obtain ⟨k,hk,rfl,HN,rfl⟩:=hrel
  by_cases hlt:k < lf.length
  ·obtain ⟨gb,go,rfl,hgb,hgc⟩:=hG (by omega)
   have c0:=hgc k hlt
   have p1:(0:Int)<=(k:Int):=by omega
   have p2:(k:Int) < (lf.length:Int):=by omega
   clear hgc
   by_cases hz:0 < Z lf k
   ·have hd:decide (0 < Z lf k)=true:=decide_eq_true hz
    have HB:=Lib.hid (show decide ((0:Int)<=(k:Int))=!noneLeft lf lf.length by
     cases h:noneLeft lf lf.length with
     | true=>have:=noneLeft_at _ h k hlt;omega
     | false=>simp)
    clear hz
    go_wp2_with fail
    refine (c_gt0 _ _).mono ?_
    rintro e w1 ⟨rfl,rfl⟩
    rw [hd]
    go_wp2_with fail
    go_ret
    exact ⟨⟨_,rfl,HB.out⟩,rfl⟩
   ·have hd:decide (0 < Z lf k)=false:=decide_eq_false hz
    have HB:=Lib.hid (show noneLeft lf (k+1)=true by rw [noneLeft_succ,HN.out,decide_eq_true (by omega)];rfl)
    clear hz
    go_wp2_with fail
    refine (c_gt0 _ _).mono ?_
    rintro e w1 ⟨rfl,rfl⟩
    rw [hd]
    go_wp2_with fail
    go_roundw
    case rel=>exact ⟨k+1,by omega,by go_num,HB,trivial⟩
    case measure=>simp [intOf];omega
  ·have hlf:¬ ((k:Int) < (lf.length:Int)):=by omega
   obtain rfl:k=lf.length:=by omega
   go_wp2_with fail
   go_ret
   exact ⟨⟨_,rfl,by rw [HN.out];rfl⟩,rfl⟩
theorem c_any (lf:List Int) (G:Option Addr) (BG g:Nat) (w:World) (hG:Is w BG G lf) (hn:lf.length<=140737488351232) :
  Calls Tryz.prog 228 #[.slice G lf.length g] w fun e w'=>e=.returned (.bool (!noneLeft lf lf.length))∧w=w':=by
 have KC:Calls Tryz.prog 254 #[.slice G lf.length g,.func (.func 255) #[] #[]] w fun e w'=>e=.returned (.bool (!noneLeft lf lf.length))∧w=w':=by
  go_enter Tryz.func254,Tryz.ntmps254
  go_wp2_with fail
  refine (c_indexLeft lf G BG g w hG hn).mono ?_
  rintro e w1 ⟨⟨i,rfl,hi⟩,rfl⟩
  go_wp2_with fail
  go_ret
  rw [<- hi]
  exact ⟨rfl,rfl⟩
 go_enter Tryz.func228,Tryz.ntmps228
 go_wp2_with fail
 refine KC.mono ?_
 rintro e w1 ⟨rfl,rfl⟩
 go_wp2_with fail
 go_ret
 exact ⟨rfl,rfl⟩
theorem c_placeIs (L:List (Int×Int)) (A:Option Addr) (c:Nat) (t:Int) (w:World) (hn:L.length<=140737488351232) :
  Calls Tryz.prog 179 #[.slice A L.length c,.int .i64 t] w fun e w'=>e=.returned (.bool (decide (0<=t∧t<=(L.length:Int) - 1)))∧w=w':=by
 go_enter Tryz.func179,Tryz.ntmps179
 go_wp2_with fail
 refine (c_within _ _ _ _).mono ?_
 rintro e w' ⟨rfl,rfl⟩
 go_wp2_with fail
 go_ret
 exact ⟨by simp,rfl⟩
def mayV (L:List (Int×Int)) (lf:List Int) (t:Nat) (who:Int):Bool:=decide (who=-1) || (decide (0<=who∧who<=(L.length:Int) - 1) && decide (X L who.toNat<=t) && decide (0 < Z lf who.toNat))
theorem c_mayServe (L:List (Int×Int)) (lf:List Int) (A G:Option Addr) (BA BG c g:Nat) (t:Nat) (who:Int) (w:World) (hA:Cs w BA A L) (hG:Is w BG G lf) (hl:lf.length=L.length) (hn:L.length<=140737488351232) :
  Calls Tryz.prog 259 #[.slice A L.length c,.slice G L.length g,.int .i64 t,.int .i64 who] w fun e w'=>e=.returned (.bool (mayV L lf t who))∧w=w':=by
 by_cases h1:who=-1
 ·subst h1
  go_enter Tryz.func259,Tryz.ntmps259
  go_wp2_with fail
  go_ret
  exact ⟨rfl,rfl⟩
 ·have hw1:(who == -1)=false:=beq_eq_false_iff_ne.2 h1
  have H1:=Lib.hid (show decide (who=-1)=false from decide_eq_false h1)
  have HP:=Lib.hid (c_placeIs L A c who w hn)
  by_cases h2:0<=who∧who<=(L.length:Int) - 1
  ·have H2:=Lib.hid (show decide (0<=who∧who<=(L.length:Int) - 1)=true from decide_eq_true h2)
   obtain ⟨p,rfl⟩:=Int.eq_ofNat_of_zero_le h2.1
   have hp:p < L.length:=by omega
   obtain ⟨b,off,rfl,hlb,hc⟩:=hA (by omega)
   obtain ⟨gb,go,rfl,hgb,hgc⟩:=hG (by omega)
   have c1:=(hc p hp).1
   have c2:=hgc p (by omega)
   have p1:(0:Int)<=(p:Int):=by omega
   have p2:(p:Int) < (L.length:Int):=by omega
   have e0:((p:Int)).toNat=p:=by simp
   have HV:=Lib.hid (show mayV L lf t (p:Int)=(decide (X L p<=t) && decide (0 < Z lf p)) by simp only [mayV,H1.out,H2.out,e0,Bool.false_or,Bool.true_and])
   rw [HV.out]
   clear hc hgc h1 h2 e0
   by_cases h3:X L p<=(t:Int)
   ·have d3:decide (X L p<=(t:Int))=true:=decide_eq_true h3
    rw [d3]
    clear d3
    go_enter Tryz.func259,Tryz.ntmps259
    go_wp2_with fail
    refine HP.out.mono ?_
    rintro e w' ⟨rfl,rfl⟩
    rw [H2.out]
    go_wp2_with fail
    go_ret
    exact ⟨rfl,rfl⟩
   ·have d3:decide (X L p<=(t:Int))=false:=decide_eq_false h3
    rw [d3]
    clear d3
    go_enter Tryz.func259,Tryz.ntmps259
    go_wp2_with fail
    refine HP.out.mono ?_
    rintro e w' ⟨rfl,rfl⟩
    rw [H2.out]
    go_wp2_with fail
    go_ret
    exact ⟨rfl,rfl⟩
  ·have H2:=Lib.hid (show decide (0<=who∧who<=(L.length:Int) - 1)=false from decide_eq_false h2)
   have HV:=Lib.hid (show mayV L lf t who=false by simp only [mayV,H1.out,H2.out,Bool.false_or,Bool.false_and])
   rw [HV.out]
   clear h1 h2
   go_enter Tryz.func259,Tryz.ntmps259
   go_wp2_with fail
   refine HP.out.mono ?_
   rintro e w' ⟨rfl,rfl⟩
   rw [H2.out]
   go_wp2_with fail
   go_ret
   exact ⟨rfl,rfl⟩
theorem mayV_unit {L:List (Int×Int)} {o:List Int} {t:Nat} (hr:∀ k,k < L.length->0<=Z (leftOf L o t) k):mayV L (leftOf L o t) t (Z o t)=unitOk L o t:=by
 unfold mayV unitOk
 by_cases h1:Z o t=-1
 ·rw [h1];simp;omega
 ·by_cases h2:0<=Z o t∧Z o t<=(L.length:Int) - 1
  ·have r:=hr (Z o t).toNat (by omega)
   have e1:decide (Z o t < 0)=false:=decide_eq_false (by omega)
   have e2:decide (-1<=Z o t∧Z o t<=(L.length:Int) - 1)=true:=decide_eq_true (by omega)
   have e3:decide (0 < Z (leftOf L o t) (Z o t).toNat)=decide (Z (leftOf L o t) (Z o t).toNat≠0):=by
    rw [decide_eq_decide];omega
   rw [decide_eq_false h1,decide_eq_true h2,e1,e2,e3];rfl
  ·have e1:decide (0<=Z o t∧Z o t<=(L.length:Int) - 1)=false:=decide_eq_false h2
   have e2:decide (-1<=Z o t∧Z o t<=(L.length:Int) - 1)=false:=decide_eq_false (by omega)
   rw [decide_eq_false h1,e1,e2];rfl
theorem ordOk_cust {L:List (Int×Int)} {o:List Int} (h:cOk L=false):ordOk L o=false:=by simp [ordOk,h]
theorem ordOk_long {L:List (Int×Int)} {o:List Int} (h:¬ (o.length:Int)<=200):ordOk L o=false:=by
 have:decide (o.length<=200)=false:=decide_eq_false (by omega)
 simp [ordOk,this]
theorem ordOk_unit {L:List (Int×Int)} {o:List Int} {t:Nat} (ht:t < o.length) (h:unitOk L o t=false):ordOk L o=false:=by
 have:unitsOk L o o.length=false:=by
  refine Bool.eq_false_iff.2 fun hu=>?_
  rw [unitsOk_at _ hu t ht] at h;cases h
 simp [ordOk,this]
theorem c_iOrderOk (L:List (Int×Int)) (o:List Int) (A O:Option Addr) (c d:Nat) (w:World) (hA:Cs w w.heap.size A L) (hO:Is w w.heap.size O o) (hn:L.length<=140737488351232) (ho:o.length<=140737488351232) :
  Calls Tryz.prog 243 #[.slice A L.length c,.slice O o.length d] w fun e w'=>e=.returned (.bool (ordOk L o))∧Below w.heap.size w w':=by
 have HC:=Lib.hid (c_iCustomersOk L A c w hA hn)
 by_cases h:cOk L=true
 ·have H:=Lib.hid h
  have hlen:=cOk_len h
  by_cases hl:(o.length:Int)<=200
  ·have hlb:decide ((200:Int) < (o.length:Int))=false:=decide_eq_false (by omega)
   have HI:=Lib.hid (fun (n:Nat) (ho:unitsOk L o n=true)=>leftOf_inv h ho)
   have HB:=Lib.hid (fun k=>@cOk_bd L k h)
   clear h
   go_enter Tryz.func243,Tryz.ntmps243
   go_wp2_with fail
   refine HC.out.mono ?_
   rintro e w1 ⟨rfl,hb1⟩
   rw [H.out]
   have hs1:=hb1.size
   clear HC
   go_wp2_with fail
   refine (c_needsOf L A c w1 ((hA.below hb1).more hs1) (by omega)).mono ?_
   rintro e w2 ⟨v,rfl,hown2,hb2⟩
   obtain ⟨G,g,rfl,hg1,-⟩:=hown2.formG
   rw [needs_len] at hown2 hg1 ⊢
   have hb3:=hb1.trans (hb2.mono hs1)
   have hs3:=hb3.size
   clear hb2 hb1
   go_wp2_with fail
   go_loopw [20] (fun i wr=>∃ t:Nat,t<=o.length∧i=.int .i64 t∧Hid (unitsOk L o t=true)∧IO wr w1.heap.size (.slice G L.length g) (leftOf L o t)∧Below w.heap.size w wr) (fun i _=>o.length - (intOf i).toNat)
   case atStart=>exact ⟨0,by omega,rfl,rfl,hown2,hb3⟩
   case round =>
    obtain ⟨t,ht,rfl,HU,hown,hb⟩:=hrel
    have hsz:=hb.size
    have hll:=leftOf_len L o t
    have HIt:=Lib.hid (HI.out t HU.out t (Nat.le_refl _))
    by_cases hlt:t < o.length
    ·obtain ⟨ob,oo,rfl,hob,hoc⟩:=hO (by omega)
     have c0:=(hb.cell (p:=⟨ob,oo+t,none⟩) hob).trans (hoc t hlt)
     have p1:(0:Int)<=(t:Int):=by omega
     have p2:(t:Int) < (o.length:Int):=by omega
     have HM:=Lib.hid (c_mayServe L (leftOf L o t) A G wr.heap.size wr.heap.size c g t (Z o t) wr ((hA.below hb).more hsz) hown.isOf.2 hll hn)
     have HE:=Lib.hid (mayV_unit (L:=L) (o:=o) (t:=t) fun k hk=>(HIt.out.rng k hk).1)
     clear hoc
     by_cases hu:unitOk L o t=true
     ·have HN:=Lib.hid (show unitsOk L o (t+1)=true by simp [unitsOk,HU.out,hu])
      have HS:=Lib.hid (c_serve (leftOf L o t) (Z o t) w1.heap.size (.slice G L.length g) wr hown (by
       rcases unitOk_cases hu with e | ⟨p,e,hp,hx,hz⟩
       ·exact .inl e
       ·refine .inr ?_
        rw [e]
        have r:=HIt.out.rng p hp
        have b:=HB.out p hp
        simp only [Int.toNat_natCast]
        omega) (by omega))
      have HU2:=Lib.hid hu
      have HB2:=Lib.hid hown
      clear hu hown
      go_wp2_with fail
      refine HM.out.mono ?_
      rintro e w5 ⟨rfl,rfl⟩
      rw [HE.out,HU2.out]
      go_wp2_with fail
      refine HS.out.mono ?_
      rintro e w6 ⟨⟨r,rfl⟩,hown6,hg6⟩
      have hb6:=hb.grown hg6 (by omega) (fun k e=>by have:=owns_base HB2.out k e;omega)
      go_wp2_with fail
      go_roundw
      case rel=>exact ⟨t+1,by omega,by go_num,HN,hown6,hb6⟩
      case measure=>simp [intOf];omega
     ·have hu':unitOk L o t=false:=by simpa using hu
      have HF:=Lib.hid (ordOk_unit hlt hu')
      have HU2:=Lib.hid hu'
      clear hu hu'
      go_wp2_with fail
      refine HM.out.mono ?_
      rintro e w5 ⟨rfl,rfl⟩
      rw [HE.out,HU2.out]
      go_wp2_with fail
      go_ret
      exact ⟨by rw [HF.out];rfl,hb⟩
    ·have hlf:¬ ((t:Int) < (o.length:Int)):=by omega
     obtain rfl:t=o.length:=by omega
     have KA:=c_any (leftOf L o o.length) G wr.heap.size g wr hown.isOf.2 (by omega)
     rw [hll] at KA
     have HA:=Lib.hid KA
     have HV:=Lib.hid (show ordOk L o=noneLeft (leftOf L o o.length) L.length by
      have:decide (o.length<=200)=true:=decide_eq_true (by omega)
      simp [ordOk,H.out,HU.out,this])
     clear KA
     go_wp2_with fail
     refine HA.out.mono ?_
     rintro e w5 ⟨rfl,rfl⟩
     go_wp2_with fail
     go_ret
     exact ⟨by rw [HV.out];simp,hb⟩
  ·have hlb:decide ((200:Int) < (o.length:Int))=true:=decide_eq_true (by omega)
   have HF:=Lib.hid (ordOk_long (L:=L) hl)
   clear h
   go_enter Tryz.func243,Tryz.ntmps243
   go_wp2_with fail
   refine HC.out.mono ?_
   rintro e w1 ⟨rfl,hb1⟩
   rw [H.out]
   go_wp2_with fail
   go_ret
   exact ⟨by rw [HF.out];rfl,hb1⟩
 ·have hno:cOk L=false:=by simpa using h
  have HF:=Lib.hid (ordOk_cust (o:=o) hno)
  have H:=Lib.hid hno;clear h hno
  go_enter Tryz.func243,Tryz.ntmps243
  go_wp2_with fail
  refine HC.out.mono ?_
  rintro e w1 ⟨rfl,hb1⟩
  rw [H.out]
  go_wp2_with fail
  go_ret
  exact ⟨by rw [HF.out];rfl,hb1⟩
end
section
attribute [local go_sem ↓] Go.wp_at_zero Go.wp_at_succ
def endsAt (L:List (Int×Int)) (o:List Int) (t:Nat):List Int:=(List.range L.length).map fun k=>endTo o k t
theorem endsAt_zero (L:List (Int×Int)) (o:List Int):endsAt L o 0=List.replicate L.length 0:=by
 refine List.ext_getElem (by simp [endsAt]) fun k h1 h2=>?_
 simp [endsAt,endTo]
theorem endsAt_set {L:List (Int×Int)} {o:List Int} {t p:Nat} (e:Z o t=p):endsAt L o (t+1)=(endsAt L o t).set p ((t:Int)+1):=by
 refine List.ext_getElem (by simp [endsAt]) fun k h1 h2=>?_
 rw [List.getElem_set]
 simp only [endsAt,List.getElem_map,List.getElem_range,endTo,e]
 by_cases h:p=k
 ·rw [if_pos h,if_pos (by omega)]
 ·rw [if_neg h,if_neg (by omega)]
theorem endsAt_idle {L:List (Int×Int)} {o:List Int} {t:Nat} (e:Z o t=-1):endsAt L o (t+1)=endsAt L o t:=by
 refine List.ext_getElem (by simp [endsAt]) fun k h1 h2=>?_
 simp only [endsAt,List.getElem_map,List.getElem_range,endTo,e]
 rw [if_neg (by omega)]
theorem c_iEndsOf (L:List (Int×Int)) (o:List Int) (A O:Option Addr) (c d:Nat) (w:World) (hA:Cs w w.heap.size A L) (hO:Is w w.heap.size O o) (hn:L.length<=140737488351232) (ho:o.length<=140737488351232) :
  Calls Tryz.prog 225 #[.slice A L.length c,.slice O o.length d] w fun e w'=>∃ v,e=.returned v∧IO w' w.heap.size v (ends L o)∧Below w.heap.size w w':=by
 have HK:=Lib.hid (c_iOrderOk L o A O c d w hA hO hn ho)
 by_cases hok:ordOk L o=true
 ·obtain ⟨hc,hl2,hu,-⟩:=ordOk_parts hok
  have H:=Lib.hid hok
  have HE:=Lib.hid (ends_yes hok)
  have hlen:=cOk_len hc
  have HU:=Lib.hid (fun t (ht:t < o.length)=>unitsOk_at _ hu t ht)
  clear hok hc hu
  go_enter Tryz.func225,Tryz.ntmps225
  go_wp2_with fail
  refine HK.out.mono ?_
  rintro e w1 ⟨rfl,hb1⟩
  rw [H.out]
  have hs1:=hb1.size
  clear HK
  go_wp2_with (refine make_I ?_ (.tmp 13) ?_ w.heap.size L.length ?_ ?_ ?_ ?_;rfl;rfl;rfl;omega;exact hs1;intro w2 hown2 hg2)
  rw [<- endsAt_zero L o] at hown2
  have hb2:=hb1.grown hg2 hs1 (fun k e=>by cases e)
  go_wp2_with fail
  go_loopw [17] (fun i wr=>∃ t:Nat,t<=o.length∧i=.int .i64 t∧IO wr w.heap.size (.slice (some ⟨w1.heap.size,0,none⟩) L.length L.length) (endsAt L o t)∧Below w.heap.size w wr) (fun i _=>o.length - (intOf i).toNat)
  case atStart=>exact ⟨0,by omega,rfl,hown2,hb2⟩
  case round =>
   obtain ⟨t,ht,rfl,hown,hb⟩:=hrel
   have hsz:=hb.size
   by_cases hlt:t < o.length
   ·obtain ⟨ob,oo,rfl,hob,hoc⟩:=hO (by omega)
    have c0:=(hb.cell (p:=⟨ob,oo+t,none⟩) hob).trans (hoc t hlt)
    have p1:(0:Int)<=(t:Int):=by omega
    have p2:(t:Int) < (o.length:Int):=by omega
    clear hoc
    rcases unitOk_cases (HU.out t hlt) with e | ⟨p,e,hp,hx,hz⟩
    ·have hn1:(Z o t == -1)=true:=beq_iff_eq.2 e
     have HN:=Lib.hid (endsAt_idle (L:=L) e)
     clear e
     go_wp2_with fail
     go_roundw
     case rel=>exact ⟨t+1,by omega,by go_num,by rw [HN.out];exact hown,hb⟩
     case measure=>simp [intOf];omega
    ·have HN:=Lib.hid (endsAt_set (L:=L) e)
     have hn1:((p:Int) == -1)=false:=beq_eq_false_iff_ne.2 (by omega)
     have q1:(0:Int)<=(p:Int):=by omega
     have q2:(p:Int) < (L.length:Int):=by omega
     rw [e] at c0
     obtain ⟨-,cs,fz⟩:=hown.cells
     have f0:=fz p
     have cp:=cs p hp
     have HO2:=Lib.hid hown
     clear e cs fz hown
     go_wp2_with fail
     go_roundw
     case rel=>exact ⟨t+1,by omega,by go_num,by rw [HN.out];exact HO2.out.store p _,hb.setCell (p:=⟨w1.heap.size,p,none⟩) hs1 _⟩
     case measure=>simp [intOf];omega
   ·have hlf:¬ ((t:Int) < (o.length:Int)):=by omega
    obtain rfl:t=o.length:=by omega
    go_wp2_with fail
    go_ret
    exact ⟨_,rfl,by rw [HE.out];exact hown,hb⟩
 ·have H:=Lib.hid (show ordOk L o=false by simpa using hok)
  clear hok
  go_enter Tryz.func225,Tryz.ntmps225
  go_wp2_with fail
  refine HK.out.mono ?_
  rintro e w1 ⟨rfl,hb1⟩
  rw [H.out]
  go_wp2_with fail
  go_ret
  exact ⟨_,rfl,by rw [ends_no H.out];exact IO.nil _ _,hb1⟩
end
end Go.Proofs.YthpccmkagikhjaaGreatDoor

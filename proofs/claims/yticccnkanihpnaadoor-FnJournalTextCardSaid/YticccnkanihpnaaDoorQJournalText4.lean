import Derived.Test.YticccnkanihpnaaDoorQJournalText1
import Derived.Test.YticccnkanihpnaaDoorQJournalText2
import Derived.Test.YticccnkanihpnaaDoorQJournalText3
import Derived.RegionCalls
import Derived.Lib.SliceRun
import Derived.Deep.CutRange
import Derived.Deep.CutBlock
import Derived.ArgAppend
import Derived.BigQuiet
import Derived.ProofKit
import Derived.OpenShut
namespace Go.Proofs.YticccnkanihpnaaDoor
set_option linter.unusedVariables false
open Go.RowKit
attribute [local go_sem ↓] Go.wp_at_zero Go.wp_at_succ
def litD:Array Value:=#[.int .i64 0,.int .i64 0,.int .i64 0,.int .i64 1,.int .i64 2,.int .i64 3,.int .i64 4]
theorem litD_val (x:Nat) (hx:(x:Int) < 7):∃ y:Int,0<=y∧y<=4∧∀ (W:World) (b:Nat) (t:TypeId),W.heap[b]?=some (.cells litD t (0,0))->W.cell? ⟨b,x,none⟩=some (.int .i64 y):=by
 rcases (show x=0∨x=1∨x=2∨x=3∨x=4∨x=5∨x=6 by omega) with rfl | rfl | rfl | rfl | rfl | rfl | rfl
 ·exact ⟨0,by omega,by omega,fun W b t h=>cell_of_row W b 0 _ _ _ h⟩
 ·exact ⟨0,by omega,by omega,fun W b t h=>cell_of_row W b 1 _ _ _ h⟩
 ·exact ⟨0,by omega,by omega,fun W b t h=>cell_of_row W b 2 _ _ _ h⟩
 ·exact ⟨1,by omega,by omega,fun W b t h=>cell_of_row W b 3 _ _ _ h⟩
 ·exact ⟨2,by omega,by omega,fun W b t h=>cell_of_row W b 4 _ _ _ h⟩
 ·exact ⟨3,by omega,by omega,fun W b t h=>cell_of_row W b 5 _ _ _ h⟩
 ·exact ⟨4,by omega,by omega,fun W b t h=>cell_of_row W b 6 _ _ _ h⟩
theorem quo59 (x:Nat) (hx:(x:Int) < 60):∃ d:Int,0<=d∧d<=1∧Int.tdiv (x:Int) 59=d:=by
 refine ⟨(x:Int).tdiv 59,?_,?_,rfl⟩ <;> rw [Int.tdiv_eq_ediv_of_nonneg (by omega)] <;> omega
theorem blk1 {W W':World} {r k:Nat} {o:Obj} (hg:W.grownBy W' (some r)) (hr:r≠k) (h:W.heap[k]?=some o):W'.heap[k]?=some o :=
 (hg.block k (Array.getElem?_eq_some_iff.1 h).1 (by simp;omega)).trans h
theorem blk2 {W V W':World} {r k:Nat} {o:Obj} (hb:Below W.heap.size W V) (hg:V.grownBy W' (some r)) (hr:r≠k) (h:W.heap[k]?=some o):W'.heap[k]?=some o :=
 blk1 hg hr ((hb.block k (Array.getElem?_eq_some_iff.1 h).1).trans h)
structure Lev (X a b ab ba:World):Prop where
 ua:Below X.heap.size X a
 ub:Below X.heap.size X b
 uab:Below X.heap.size X ab
 uba:Below X.heap.size X ba
 la:a.heap[X.heap.size]?=some (.cells #[.int .i64 0,.int .i64 0,.int .i64 0,.int .i64 1,.int .i64 2,.int .i64 3,.int .i64 4] 3 (0,0))
 db:b.heap[X.heap.size]?=some (.cells #[.int .i64 0,.int .i64 0,.int .i64 0] 24 (0,0))
 lab:ab.heap[X.heap.size]?=some (.cells #[.int .i64 0,.int .i64 0,.int .i64 0,.int .i64 1,.int .i64 2,.int .i64 3,.int .i64 4] 3 (0,0))
 dab:ab.heap[a.heap.size]?=some (.cells #[.int .i64 0,.int .i64 0,.int .i64 0] 24 (0,0))
 dba:ba.heap[X.heap.size]?=some (.cells #[.int .i64 0,.int .i64 0,.int .i64 0] 24 (0,0))
 lba:ba.heap[b.heap.size]?=some (.cells #[.int .i64 0,.int .i64 0,.int .i64 0,.int .i64 1,.int .i64 2,.int .i64 3,.int .i64 4] 3 (0,0))
 sa:X.heap.size < a.heap.size
 sb:X.heap.size < b.heap.size
theorem lev (X:World):∃ a b ab ba:World,X.alloc (.cells #[.int .i64 0,.int .i64 0,.int .i64 0,.int .i64 1,.int .i64 2,.int .i64 3,.int .i64 4] 3)=a∧X.alloc (.cells #[.int .i64 0,.int .i64 0,.int .i64 0] 24)=b∧a.alloc (.cells #[.int .i64 0,.int .i64 0,.int .i64 0] 24)=ab∧b.alloc (.cells #[.int .i64 0,.int .i64 0,.int .i64 0,.int .i64 1,.int .i64 2,.int .i64 3,.int .i64 4] 3)=ba∧Hid (Lev X a b ab ba):=by
 refine ⟨_,_,_,_,rfl,rfl,rfl,rfl,Lib.hid ⟨?_,?_,?_,?_,heap_alloc_new _ _,heap_alloc_new _ _,(Below.heap_alloc _ _ _ (by simp)).trans (heap_alloc_new _ _),heap_alloc_new _ _,(Below.heap_alloc _ _ _ (by simp)).trans (heap_alloc_new _ _),heap_alloc_new _ _,by simp,by simp⟩⟩
 ·exact (Below.refl _ X).alloc (Nat.le_refl _) _
 ·exact (Below.refl _ X).alloc (Nat.le_refl _) _
 ·exact ((Below.refl _ X).alloc (Nat.le_refl _) _).alloc (by simp) _
 ·exact ((Below.refl _ X).alloc (Nat.le_refl _) _).alloc (by simp) _
theorem finD {w w4 F:World} {base r q n B:Nat} {k:Int} (hn:w.heap.size=n) (hr:r < n) (hbr:base<=r) (hG:w.grownBy w4 (some r)) (hR:Rd w4 base r q) (bR:w4.heap[n]?=some (.cells #[.int .i64 0,.int .i64 0,.int .i64 0] 24 (0,0))) (hb:Below w4.heap.size w4 F) (hD:F.heap[B]?=some (.cells #[.int .i64 0,.int .i64 0,.int .i64 0] 24 (0,0))) (hB:n < B) :
  (((F.setCell ⟨B,0,none⟩ (.int .i64 k)).setCell ⟨B,1,none⟩ (.int .i64 0)).setCell ⟨B,2,none⟩ (.int .i64 0)).heap[B]?=some (.cells #[.int .i64 k,.int .i64 0,.int .i64 0] 24 (0,0)) ∧
    (((F.setCell ⟨B,0,none⟩ (.int .i64 k)).setCell ⟨B,1,none⟩ (.int .i64 0)).setCell ⟨B,2,none⟩ (.int .i64 0)).heap[n]?=some (.cells #[.int .i64 0,.int .i64 0,.int .i64 0] 24 (0,0)) ∧
    w.grownBy (((F.setCell ⟨B,0,none⟩ (.int .i64 k)).setCell ⟨B,1,none⟩ (.int .i64 0)).setCell ⟨B,2,none⟩ (.int .i64 0)) (some r) ∧
    Rd (((F.setCell ⟨B,0,none⟩ (.int .i64 k)).setCell ⟨B,1,none⟩ (.int .i64 0)).setCell ⟨B,2,none⟩ (.int .i64 0)) base r q:=by
 subst hn
 have hG4:=hG.size
 have hc:Below B F (((F.setCell ⟨B,0,none⟩ (.int .i64 k)).setCell ⟨B,1,none⟩ (.int .i64 0)).setCell ⟨B,2,none⟩ (.int .i64 0)):=(((Below.refl _ F).setCell (p:=⟨B,0,none⟩) (Nat.le_refl _) _).setCell (p:=⟨B,1,none⟩) (Nat.le_refl _) _).setCell (p:=⟨B,2,none⟩) (Nat.le_refl _) _
 have hlt:=hR.2.1
 have hF:=hR.keepB hb hlt (by omega)
 refine ⟨set3 _ _ _ hD,(hc.block _ (by omega)).trans ((hb.block _ (Array.getElem?_eq_some_iff.1 bR).1).trans bR),grown_thenB (grown_thenB hG (hb.mono hG4)) (hc.mono (by omega)),hF.keepB hc (by omega) (by omega)⟩
def bdX (L:List (Int×Int)):Prop:=∀ k,k < L.length→-1≤X L k∧X L k≤61
theorem bdX_of {L:List (Int×Int)} (h:bdL L):bdX L:=by
 intro k hk
 have b:=h L[k] (List.getElem_mem hk)
 have e:L[k]=(X L k,Y L k):=by simp [X,Y,hk]
 rw [e] at b
 exact ⟨b.1,b.2.1⟩
theorem quo9 (x:Nat) (hx:(x:Int) < 10):∃ d:Int,0<=d∧d<=1∧Int.tdiv (x:Int) 9=d:=by
 refine ⟨(x:Int).tdiv 9,?_,?_,rfl⟩ <;> rw [Int.tdiv_eq_ediv_of_nonneg (by omega)] <;> omega
theorem quo19 (x:Nat) (hx:(x:Int) < 20):∃ d:Int,0<=d∧d<=1∧Int.tdiv (x:Int) 19=d:=by
 refine ⟨(x:Int).tdiv 19,?_,?_,rfl⟩ <;> rw [Int.tdiv_eq_ediv_of_nonneg (by omega)] <;> omega
theorem set3a {w:World} {R:Nat} {t:TypeId} {x y z:Value} (q:Value) (h:w.heap[R]?=some (.cells #[x,y,z] t (0,0))):(w.setCell ⟨R,0,none⟩ q).heap[R]?=some (.cells #[q,y,z] t (0,0)):=by
 obtain ⟨hlt,he⟩:=Array.getElem?_eq_some_iff.1 h
 rw [Array.getElem?_eq_getElem (by simpa [World.setCell] using hlt)]
 simp [World.setCell,Array.getElem_modify,he]
theorem set3b {w:World} {R:Nat} {t:TypeId} {x y z:Value} (q:Value) (h:w.heap[R]?=some (.cells #[x,y,z] t (0,0))):(w.setCell ⟨R,1,none⟩ q).heap[R]?=some (.cells #[x,q,z] t (0,0)):=by
 obtain ⟨hlt,he⟩:=Array.getElem?_eq_some_iff.1 h
 rw [Array.getElem?_eq_getElem (by simpa [World.setCell] using hlt)]
 simp [World.setCell,Array.getElem_modify,he]
theorem set3c {w:World} {R:Nat} {t:TypeId} {x y z:Value} (q:Value) (h:w.heap[R]?=some (.cells #[x,y,z] t (0,0))):(w.setCell ⟨R,2,none⟩ q).heap[R]?=some (.cells #[x,y,q] t (0,0)):=by
 obtain ⟨hlt,he⟩:=Array.getElem?_eq_some_iff.1 h
 rw [Array.getElem?_eq_getElem (by simpa [World.setCell] using hlt)]
 simp [World.setCell,Array.getElem_modify,he]
structure DdAt (w wx:World) (base r B q:Nat) (k a b:Int):Prop where
 deed:wx.heap[B]?=some (.cells #[.int .i64 k,.int .i64 a,.int .i64 b] 24 (0,0))
 res:wx.heap[w.heap.size]?=some (.cells #[.int .i64 0,.int .i64 0,.int .i64 0] 24 (0,0))
 grown:w.grownBy wx (some r)
 rd:Rd wx base r q
 hr:r < w.heap.size
 hB:w.heap.size < B
theorem DdAt.pick {w wx w':World} {base r B q q':Nat} {k a b:Int} (h:DdAt w wx base r B q k a b) (hg:wx.grownBy w' (some r)) (hr':Rd w' base r q'):DdAt w w' base r B q' k a b:=by
 have h1:=h.hr
 have h2:=h.hB
 exact ⟨blk1 hg (by omega) h.deed,blk1 hg (by omega) h.res,h.grown.trans hg,hr',h.hr,h.hB⟩
theorem DdAt.below {w wx w':World} {base r B q:Nat} {k a b:Int} (h:DdAt w wx base r B q k a b) (hb:Below wx.heap.size wx w'):DdAt w w' base r B q k a b:=by
 have h1:=h.hr
 have h2:=h.hB
 have h3:=h.grown.size
 have h4:=h.rd.1
 exact ⟨(hb.block _ (Array.getElem?_eq_some_iff.1 h.deed).1).trans h.deed,(hb.block _ (Array.getElem?_eq_some_iff.1 h.res).1).trans h.res,grown_thenB h.grown (hb.mono h3),h.rd.keepB hb (by omega) (by omega),h.hr,h.hB⟩
theorem DdAt.low {w wx w':World} {base r B q:Nat} {k a b a' b':Int} (h:DdAt w wx base r B q k a b) (hb:Below B wx w') (hd:w'.heap[B]?=some (.cells #[.int .i64 k,.int .i64 a',.int .i64 b'] 24 (0,0))):DdAt w w' base r B q k a' b':=by
 have h1:=h.hr
 have h2:=h.hB
 have h4:=h.rd.1
 exact ⟨hd,(hb.block _ (by omega)).trans h.res,grown_thenB h.grown (hb.mono (by omega)),h.rd.keepB hb (by omega) (by omega),h.hr,h.hB⟩
theorem DdAt.set1 {w wx:World} {base r B q:Nat} {k a b:Int} (h:DdAt w wx base r B q k a b) (v:Int):DdAt w (wx.setCell ⟨B,1,none⟩ (.int .i64 v)) base r B q k v b :=
 h.low ((Below.refl _ wx).setCell (p:=⟨B,1,none⟩) (Nat.le_refl _) _) (set3b _ h.deed)
theorem DdAt.set2 {w wx:World} {base r B q:Nat} {k a b:Int} (h:DdAt w wx base r B q k a b) (v:Int):DdAt w (wx.setCell ⟨B,2,none⟩ (.int .i64 v)) base r B q k a v :=
 h.low ((Below.refl _ wx).setCell (p:=⟨B,2,none⟩) (Nat.le_refl _) _) (set3c _ h.deed)
theorem DdAt.cells {w wx:World} {base r B q:Nat} {k a b:Int} (h:DdAt w wx base r B q k a b):wx.cell? ⟨B,0,none⟩=some (.int .i64 k)∧wx.cell? ⟨B,1,none⟩=some (.int .i64 a)∧wx.cell? ⟨B,2,none⟩=some (.int .i64 b)∧wx.frozen? ⟨B,1,none⟩=false∧wx.frozen? ⟨B,2,none⟩=false :=
 ⟨cell_of_row _ B 0 _ _ _ h.deed,cell_of_row _ B 1 _ _ _ h.deed,cell_of_row _ B 2 _ _ _ h.deed,unfrozen_of h.deed,unfrozen_of h.deed⟩
theorem DdAt.fin {w wx:World} {base r B q:Nat} {k a b:Int} (h:DdAt w wx base r B q k a b) (x y z:Value) :
  (((wx.setCell ⟨w.heap.size,0,none⟩ x).setCell ⟨w.heap.size,1,none⟩ y).setCell ⟨w.heap.size,2,none⟩ z).heap[w.heap.size]?=some (.cells #[x,y,z] 24 (0,0)) ∧
    w.grownBy (((wx.setCell ⟨w.heap.size,0,none⟩ x).setCell ⟨w.heap.size,1,none⟩ y).setCell ⟨w.heap.size,2,none⟩ z) (some r) ∧
    Rd (((wx.setCell ⟨w.heap.size,0,none⟩ x).setCell ⟨w.heap.size,1,none⟩ y).setCell ⟨w.heap.size,2,none⟩ z) base r q:=by
 have hb:Below w.heap.size wx (((wx.setCell ⟨w.heap.size,0,none⟩ x).setCell ⟨w.heap.size,1,none⟩ y).setCell ⟨w.heap.size,2,none⟩ z):=(((Below.refl _ wx).setCell (p:=⟨w.heap.size,0,none⟩) (Nat.le_refl _) _).setCell (p:=⟨w.heap.size,1,none⟩) (Nat.le_refl _) _).setCell (p:=⟨w.heap.size,2,none⟩) (Nat.le_refl _) _
 have h1:=h.hr
 have h4:=h.rd.1
 exact ⟨set3 _ _ _ h.res,grown_thenB h.grown hb,h.rd.keepB hb h.hr (by omega)⟩
theorem DdAt.place {w wx:World} {base r B q:Nat} {k a b:Int} (h:DdAt w wx base r B q k a b):wx.cell? ⟨w.heap.size,0,none⟩=some (.int .i64 0)∧wx.cell? ⟨w.heap.size,1,none⟩=some (.int .i64 0)∧wx.cell? ⟨w.heap.size,2,none⟩=some (.int .i64 0)∧wx.frozen? ⟨w.heap.size,0,none⟩=false∧wx.frozen? ⟨w.heap.size,1,none⟩=false∧wx.frozen? ⟨w.heap.size,2,none⟩=false :=
 ⟨cell_of_row _ _ 0 _ _ _ h.res,cell_of_row _ _ 1 _ _ _ h.res,cell_of_row _ _ 2 _ _ _ h.res,unfrozen_of h.res,unfrozen_of h.res,unfrozen_of h.res⟩
theorem litE_val (x:Nat) (hx:(x:Int) < 3):∃ y:Int,-1<=y∧y<=100∧∀ (W:World) (b:Nat) (t:TypeId),W.heap[b]?=some (.cells #[.int .i64 (-1),.int .i64 61,.int .i64 100] t (0,0))->W.cell? ⟨b,x,none⟩=some (.int .i64 y):=by
 rcases (show x=0∨x=1∨x=2 by omega) with rfl | rfl | rfl
 ·exact ⟨-1,by omega,by omega,fun W b t h=>cell_of_row W b 0 _ _ _ h⟩
 ·exact ⟨61,by omega,by omega,fun W b t h=>cell_of_row W b 1 _ _ _ h⟩
 ·exact ⟨100,by omega,by omega,fun W b t h=>cell_of_row W b 2 _ _ _ h⟩
set_option maxRecDepth 8000 in
set_option maxHeartbeats 8000000 in
theorem c_l20Deed (base r p:Nat) (L:List (Int×Int)) (A:Option Addr) (c:Nat) (w:World) (h:Rd w base r p) (hp:p<=900000000) (hL:L.length<=1000) (hbd:bdX L)
  (hA:∀ W,w.grownBy W (some r)->Cs W W.heap.size A L) :
  Calls Tryd.prog 31 #[.pointer (some ⟨r,0,none⟩),.slice A L.length c] w fun e w'=>∃ k a b:Int,e=.returned (.agg #[.int .i64 k,.int .i64 a,.int .i64 b])∧(0<=k∧k<=9)∧(-1000<=a∧a<=1000)∧(-1000<=b∧b<=1000)∧w.grownBy w' (some r)∧∃ p',p'<=p+10∧Rd w' base r p':=by
 have hrw:=h.2.1
 have hbr:=h.1
 obtain ⟨w0,hw0⟩:∃ w0,w.alloc (.cells #[.int .i64 0,.int .i64 0,.int .i64 0] 24)=w0:=⟨_,rfl⟩
 have hz0:w.heap.size < w0.heap.size:=by rw [<- hw0];simp
 have hb0:Below w.heap.size w w0:=by rw [<- hw0];exact (Below.refl _ w).alloc (Nat.le_refl _) _
 have g0:w.grownBy w0 (some r):=by rw [<- hw0];exact World.grownBy_alloc _ _ _
 have bR:w0.heap[w.heap.size]?=some (.cells #[.int .i64 0,.int .i64 0,.int .i64 0] 24 (0,0)):=by rw [<- hw0];exact heap_alloc_new _ _
 have r0:=h.keepB hb0 hrw (by omega)
 have HA:=Lib.hid hA
 clear hA hb0
 go_enter Tryd.func31,Tryd.ntmps31
 go_upto_region 1 with fail
 clear hw0
 go_cut [5] from 7 to 18 (fun p5 wx=>∃ (B p2:Nat) (k:Int),p5=.pointer (some ⟨B,0,none⟩)∧(0<=k∧k<=9)∧w.heap.size < B∧wx.heap[B]?=some (.cells #[.int .i64 k,.int .i64 0,.int .i64 0] 24 (0,0))∧wx.heap[w.heap.size]?=some (.cells #[.int .i64 0,.int .i64 0,.int .i64 0] 24 (0,0))∧w.grownBy wx (some r)∧p2<=p+2∧Rd wx base r p2)
 case first =>
  obtain ⟨wd,hwd⟩:∃ z,w0.drew=z:=⟨_,rfl⟩
  have hbd0:Below w0.heap.size w0 wd:=by rw [<- hwd];exact (Below.refl _ w0).drew
  have hdz:w.heap.size < wd.heap.size:=by have:=hbd0.size;omega
  obtain ⟨wda,wdb,wdab,wdba,j1,j2,j3,j4,E0⟩:=lev wd
  have s0a:=E0.out.sa
  have s0b:=E0.out.sb
  have rd:=r0.keepB hbd0 (by omega) (by omega)
  have gd:=grown_thenB g0 (hbd0.mono (by omega))
  have bd:=(hbd0.block _ hz0).trans bR
  have RD:=Lib.hid (And.intro rd (And.intro (rd.keepB E0.out.ua (by omega) (by omega)) (And.intro (rd.keepB E0.out.ub (by omega) (by omega)) (And.intro (rd.keepB E0.out.uab (by omega) (by omega)) (rd.keepB E0.out.uba (by omega) (by omega))))))
  have GD:=Lib.hid (And.intro gd (And.intro (grown_thenB gd (E0.out.ua.mono (by omega))) (And.intro (grown_thenB gd (E0.out.ub.mono (by omega))) (And.intro (grown_thenB gd (E0.out.uab.mono (by omega))) (grown_thenB gd (E0.out.uba.mono (by omega)))))))
  have BD:=Lib.hid (And.intro bd (And.intro ((E0.out.ua.block _ hdz).trans bd) (And.intro ((E0.out.ub.block _ hdz).trans bd) (And.intro ((E0.out.uab.block _ hdz).trans bd) ((E0.out.uba.block _ hdz).trans bd)))))
  clear rd gd bd r0 g0 bR hbd0 h
  go_region_with (first
   | (go_at_call 44;(with_reducible refine (c_pickI base r p 7 _ (by first | exact RD.out.1 | exact RD.out.2.1 | exact RD.out.2.2.1 | exact RD.out.2.2.2.1 | exact RD.out.2.2.2.2) (by omega) (by omega) (by omega)).mono ?_);rintro e w3 ⟨x1,hx1,rfl,hg3,hr3⟩;obtain ⟨y,hy0,hy4,HL⟩:=litD_val x1 hx1;obtain ⟨w3a,w3b,w3ab,w3ba,k1,k2,k3,k4,E3⟩:=lev w3;have s30:=hg3.size;(first | (have L3:Hid (w3.heap[wd.heap.size]?=_):=Lib.hid (blk1 hg3 (by omega) E0.out.la);have c1:=HL w3 _ _ L3.out;have c2:=HL w3b _ _ ((E3.out.ub.block _ (Array.getElem?_eq_some_iff.1 L3.out).1).trans L3.out)) | (have D3:Hid (w3.heap[wd.heap.size]?=_):=Lib.hid (blk1 hg3 (by omega) E0.out.db);have c1:=HL w3a _ _ E3.out.la) | (have L3:Hid (w3.heap[wd.heap.size]?=_):=Lib.hid (blk1 hg3 (by omega) E0.out.lab);have D3:=Lib.hid (blk1 hg3 (by omega) E0.out.dab);have c1:=HL w3 _ _ L3.out) | (have D3:Hid (w3.heap[wd.heap.size]?=_):=Lib.hid (blk1 hg3 (by omega) E0.out.dba);have L3:=Lib.hid (blk1 hg3 (by omega) E0.out.lba);have c1:=HL w3 _ _ L3.out) | (have c1:=HL w3a _ _ E3.out.la;have c2:=HL w3ab _ _ E3.out.lab;have c3:=HL w3ba _ _ E3.out.lba));have G3:=Lib.hid (World.grownBy.trans (by first | exact GD.out.1 | exact GD.out.2.1 | exact GD.out.2.2.1 | exact GD.out.2.2.2.1 | exact GD.out.2.2.2.2) hg3);have b3:=Lib.hid (show w3.heap[w.heap.size]?=some (.cells #[.int .i64 0,.int .i64 0,.int .i64 0] 24 (0,0)) from blk1 hg3 (by omega) (by first | exact BD.out.1 | exact BD.out.2.1 | exact BD.out.2.2.1 | exact BD.out.2.2.2.1 | exact BD.out.2.2.2.2));have s3:=G3.out.size;have HL':=Lib.hid HL;have R3:=Lib.hid hr3;have l3:=hr3.2.1;clear HL hg3 hr3)
   | (go_at_call 44;(with_reducible refine (c_pickI base r (p+1) 60 _ (by first | exact R3.out | exact R3.out.keepB E3.out.ua (by omega) (by omega) | exact R3.out.keepB E3.out.ub (by omega) (by omega) | exact R3.out.keepB E3.out.uab (by omega) (by omega) | exact R3.out.keepB E3.out.uba (by omega) (by omega)) (by omega) (by omega) (by omega)).mono ?_);rintro e w4 ⟨x2,hx2,rfl,hg4,hr4⟩;obtain ⟨d,hd0,hd1,hdq⟩:=quo59 x2 hx2;have q0:IntKind.i64.wrap d=d:=IntWalk.i64_in _ (by omega);have q1:IntKind.i64.wrap (d * 5)=d * 5:=IntWalk.i64_in _ (by omega);have q2:IntKind.i64.wrap (y+d * 5)=y+d * 5:=IntWalk.i64_in _ (by omega);obtain ⟨w4a,w4b,w4ab,w4ba,m1,m2,m3,m4,E4⟩:=lev w4;have s40:=hg4.size;have s3a:=E3.out.sa;have s3b:=E3.out.sb;(first | have L4:=Lib.hid (blk1 hg4 (by omega) L3.out) | have L4:=Lib.hid (blk1 hg4 (by omega) E3.out.la) | have L4:=Lib.hid (blk1 hg4 (by omega) E3.out.lab) | have L4:=Lib.hid (blk1 hg4 (by omega) E3.out.lba) | have L4:=Lib.hid (blk2 E3.out.ub hg4 (by omega) L3.out) | skip);(first | have D4:=Lib.hid (blk1 hg4 (by omega) D3.out) | have D4:=Lib.hid (blk1 hg4 (by omega) E3.out.db) | have D4:=Lib.hid (blk1 hg4 (by omega) E3.out.dba) | have D4:=Lib.hid (blk1 hg4 (by omega) E3.out.dab) | have D4:=Lib.hid (blk2 E3.out.ua hg4 (by omega) D3.out) | skip);(first | (have c4:=HL'.out w4 _ _ L4.out;have c5:=HL'.out w4b _ _ ((E4.out.ub.block _ (Array.getElem?_eq_some_iff.1 L4.out).1).trans L4.out)) | (have c4:=HL'.out w4a _ _ E4.out.la;have c5:=HL'.out w4ab _ _ E4.out.lab;have c6:=HL'.out w4ba _ _ E4.out.lba));(first | (have D4a:=Lib.hid ((E4.out.ua.block _ (Array.getElem?_eq_some_iff.1 D4.out).1).trans D4.out);have z0:=unfrozen_of (i:=0) D4.out;have z1:=unfrozen_of (i:=1) D4.out;have z2:=unfrozen_of (i:=2) D4.out;have y0:=cell_of_row _ _ 0 _ _ _ D4.out;have y1:=cell_of_row _ _ 1 _ _ _ D4.out;have y2:=cell_of_row _ _ 2 _ _ _ D4.out;have z3:=unfrozen_of (i:=0) D4a.out;have z4:=unfrozen_of (i:=1) D4a.out;have z5:=unfrozen_of (i:=2) D4a.out;have y3:=cell_of_row _ _ 0 _ _ _ D4a.out;have y4:=cell_of_row _ _ 1 _ _ _ D4a.out;have y5:=cell_of_row _ _ 2 _ _ _ D4a.out) | (have z0:=unfrozen_of (i:=0) E4.out.db;have z1:=unfrozen_of (i:=1) E4.out.db;have z2:=unfrozen_of (i:=2) E4.out.db;have y0:=cell_of_row _ _ 0 _ _ _ E4.out.db;have y1:=cell_of_row _ _ 1 _ _ _ E4.out.db;have y2:=cell_of_row _ _ 2 _ _ _ E4.out.db;have z3:=unfrozen_of (i:=0) E4.out.dab;have z4:=unfrozen_of (i:=1) E4.out.dab;have z5:=unfrozen_of (i:=2) E4.out.dab;have y3:=cell_of_row _ _ 0 _ _ _ E4.out.dab;have y4:=cell_of_row _ _ 1 _ _ _ E4.out.dab;have y5:=cell_of_row _ _ 2 _ _ _ E4.out.dab;have z6:=unfrozen_of (i:=0) E4.out.dba;have z7:=unfrozen_of (i:=1) E4.out.dba;have z8:=unfrozen_of (i:=2) E4.out.dba;have y6:=cell_of_row _ _ 0 _ _ _ E4.out.dba;have y7:=cell_of_row _ _ 1 _ _ _ E4.out.dba;have y8:=cell_of_row _ _ 2 _ _ _ E4.out.dba));have G4:=Lib.hid (World.grownBy.trans (by first | exact G3.out | exact grown_thenB G3.out (E3.out.ua.mono (by omega)) | exact grown_thenB G3.out (E3.out.ub.mono (by omega)) | exact grown_thenB G3.out (E3.out.uab.mono (by omega)) | exact grown_thenB G3.out (E3.out.uba.mono (by omega))) hg4);have b4:=Lib.hid (show w4.heap[w.heap.size]?=some (.cells #[.int .i64 0,.int .i64 0,.int .i64 0] 24 (0,0)) from by first | exact blk1 hg4 (by omega) b3.out | exact blk2 E3.out.ua hg4 (by omega) b3.out | exact blk2 E3.out.ub hg4 (by omega) b3.out | exact blk2 E3.out.uab hg4 (by omega) b3.out | exact blk2 E3.out.uba hg4 (by omega) b3.out);have R4:=Lib.hid hr4;clear hr4 hg4))
  all_goals
   have v1:=E0.out.ua.size
   have v2:=E0.out.ub.size
   have v3:=E0.out.uab.size
   have v4:=E0.out.uba.size
   have v5:=E3.out.ua.size
   have v6:=E3.out.ub.size
   have v7:=E3.out.uab.size
   have v8:=E3.out.uba.size
   have v9:=E4.out.sa
   have v10:=E4.out.sb
   go_wp2_with fail
   go_meet
   case rel=>first
    | (obtain ⟨f1,f2,f3,f4⟩:=finD (k:=y+d * 5) rfl hrw hbr G4.out R4.out b4.out (Below.refl _ _) D4.out (by omega);exact ⟨_,p+1+1,y+d * 5,rfl,⟨by omega,by omega⟩,by omega,f1,f2,f3,by omega,f4⟩)
    | (obtain ⟨f1,f2,f3,f4⟩:=finD (k:=y+d * 5) rfl hrw hbr G4.out R4.out b4.out E4.out.ua D4a.out (by omega);exact ⟨_,p+1+1,y+d * 5,rfl,⟨by omega,by omega⟩,by omega,f1,f2,f3,by omega,f4⟩)
    | (obtain ⟨f1,f2,f3,f4⟩:=finD (k:=y+d * 5) rfl hrw hbr G4.out R4.out b4.out E4.out.ub E4.out.db (by omega);exact ⟨_,p+1+1,y+d * 5,rfl,⟨by omega,by omega⟩,by omega,f1,f2,f3,by omega,f4⟩)
    | (obtain ⟨f1,f2,f3,f4⟩:=finD (k:=y+d * 5) rfl hrw hbr G4.out R4.out b4.out E4.out.uab E4.out.dab (by omega);exact ⟨_,p+1+1,y+d * 5,rfl,⟨by omega,by omega⟩,by omega,f1,f2,f3,by omega,f4⟩)
    | (obtain ⟨f1,f2,f3,f4⟩:=finD (k:=y+d * 5) rfl hrw hbr G4.out R4.out b4.out E4.out.uba E4.out.dba (by omega);exact ⟨_,p+1+1,y+d * 5,rfl,⟨by omega,by omega⟩,by omega,f1,f2,f3,by omega,f4⟩)
 case rest =>
  clear r0 g0 bR h
  obtain ⟨B,p2,k,rfl,⟨hk0,hk9⟩,hwB,bB,bR,hG,hp2,hR⟩:=hcut
  have D0:DdAt w wc base r B p2 k 0 0:=⟨bB,bR,hG,hR,hrw,hwB⟩
  have c0:=cell_of_row _ B 0 _ _ _ bB
  clear bB bR hR
  go_upto_block 0 with fail
  go_cut [5] from 6 to 62 (fun p5 wy=>∃ (p3:Nat) (a b:Int),p5=.pointer (some ⟨B,0,none⟩)∧(-1000<=a∧a<=1000)∧(-1000<=b∧b<=1000)∧p3<=p+6∧DdAt w wy base r B p3 k a b)
  case first =>
   clear c0
   by_cases k0:k=0
   ·subst k0
    go_upto_if 24 with fail
    go_cut [6] from 24 to 31 (fun l wy=>wy=wc∧∃ last:Int,l=.int .i64 last∧-1<=last∧last<=61)
    case first =>
     by_cases hl:0 < L.length
     ·obtain ⟨b,off,rfl,hlb,hcc⟩:=HA.out _ hG hl
      have c1:=(hcc (L.length - 1) (by omega)).1
      have hlast:=hbd (L.length - 1) (show L.length - 1 < L.length by omega)
      have z1:(0:Int)<=(L.length:Int) - 1:=by omega
      have z2:(L.length:Int) - 1 < (L.length:Int):=by omega
      have z3:((L.length:Int) - 1).toNat=L.length - 1:=by omega
      have z4:(1:Int)<=(L.length:Int):=by omega
      clear hcc
      go_wp2_with fail
      go_meet
      case rel=>exact ⟨rfl,_,rfl,hlast.1,hlast.2⟩
     ·have z5:¬ (0:Int) < (L.length:Int):=by omega
      go_wp2_with fail
      go_meet
      case rel=>exact ⟨rfl,_,rfl,by omega,by omega⟩
    case rest =>
     obtain ⟨rfl,last,rfl,hl1,hl2⟩:=hcut
     have D0':=D0
     go_wp2_with fail
     refine (c_pickI base r p2 6 _ D0.rd (by omega) (by omega) (by omega)).mono ?_
     rintro e w6 ⟨x1,hx1,rfl,hg1,hr1⟩
     have D1:=D0.pick hg1 hr1
     have q1:IntKind.i64.wrap (last+(x1:Int))=last+(x1:Int):=IntWalk.i64_in _ (by omega)
     go_wp2_with fail
     refine (c_pickI base r (p2+1) 10 _ D1.rd (by omega) (by omega) (by omega)).mono ?_
     rintro e w7 ⟨x2,hx2,rfl,hg2,hr2⟩
     have D2:=D1.pick hg2 hr2
     obtain ⟨d,hd0,hd1,hdq⟩:=quo9 x2 hx2
     obtain ⟨s,hs,hs0,hs1⟩:∃ s:Int,last+(x1:Int) - d=s∧-10<=s∧s<=100:=⟨_,rfl,by omega,by omega⟩
     have q2:IntKind.i64.wrap d=d:=IntWalk.i64_in _ (by omega)
     have q3:IntKind.i64.wrap s=s:=IntWalk.i64_in _ (by omega)
     obtain ⟨a,ha0,ha1,hm⟩:∃ a:Int,0<=a∧a<=100∧((s < 0∧a=0)∨(¬ s < 0∧a=s)):=by
      by_cases h:s < 0
      ·exact ⟨0,by omega,by omega,.inl ⟨h,rfl⟩⟩
      ·exact ⟨s,by omega,by omega,.inr ⟨h,rfl⟩⟩
     obtain ⟨-,y1,y2,f1,f2⟩:=D2.cells
     have D3:=D2.set1 a
     obtain ⟨w8,hw8⟩:∃ w8,w7.setCell ⟨B,1,none⟩ (.int .i64 a)=w8:=⟨_,rfl⟩
     rw [hw8] at D3
     obtain ⟨-,-,y3,-,f3⟩:=D3.cells
     clear hg1 hg2 D1 D0 D2 hr1 hr2
     rcases hm with ⟨hm,rfl⟩ | ⟨hm,rfl⟩
     all_goals
      go_wp2_with fail
      refine (c_pickI base r (p2+1+1) 9 _ D3.rd (by omega) (by omega) (by omega)).mono ?_
      rintro e w9 ⟨x3,hx3,rfl,hg3,hr3⟩
      have D4:=D3.pick hg3 hr3
      have q4:IntKind.i64.wrap (1+(x3:Int))=1+(x3:Int):=IntWalk.i64_in _ (by omega)
      go_wp2_with fail
      refine (c_pickI base r (p2+1+1+1) 20 _ D4.rd (by omega) (by omega) (by omega)).mono ?_
      rintro e w10 ⟨x4,hx4,rfl,hg4,hr4⟩
      have D5:=D4.pick hg4 hr4
      obtain ⟨d2,hd2,hd3,hdq2⟩:=quo19 x4 hx4
      have q5:IntKind.i64.wrap d2=d2:=IntWalk.i64_in _ (by omega)
      have q6:IntKind.i64.wrap (1+(x3:Int) - d2)=1+(x3:Int) - d2:=IntWalk.i64_in _ (by omega)
      obtain ⟨-,-,y5,-,f5⟩:=D5.cells
      have HD6:=Lib.hid (D5.set2 (1+(x3:Int) - d2))
      clear hg3 hg4 D3 D4 D5 hr3 hr4 D0'
      go_wp2_with fail
      go_meet
      case rel=>exact ⟨_,_,_,rfl,by omega,by omega,by omega,HD6.out⟩
   ·have e0:(k == 0)=false:=beq_eq_false_iff_ne.2 k0
    by_cases k2:k=2
    ·subst k2
     obtain ⟨n,hn1,hn2,hm⟩:∃ n:Int,1<=n∧n<=1000∧(((L.length:Int) < 1∧n=1)∨(¬ (L.length:Int) < 1∧n=(L.length:Int))):=by
      by_cases h:(L.length:Int) < 1
      ·exact ⟨1,by omega,by omega,.inl ⟨h,rfl⟩⟩
      ·exact ⟨L.length,by omega,by omega,.inr ⟨h,rfl⟩⟩
     rcases hm with ⟨hm,rfl⟩ | ⟨hm,rfl⟩
     all_goals
      go_wp2_with fail
      refine (c_pickI base r p2 _ _ D0.rd (by omega) hn1 hn2).mono ?_
      rintro e w6 ⟨x1,hx1,rfl,hg1,hr1⟩
      have D1:=D0.pick hg1 hr1
      obtain ⟨-,y1,-,f1,-⟩:=D1.cells
      have HD6:=Lib.hid (D1.set1 (x1:Int))
      clear hg1 D0 D1 hr1
      go_wp2_with fail
      go_meet
      case rel=>exact ⟨_,_,_,rfl,by omega,by omega,by omega,HD6.out⟩
    ·have e2:(k == 2)=false:=beq_eq_false_iff_ne.2 k2
     by_cases k3:k=3
     ·subst k3
      go_wp2_with fail
      refine (c_pickI base r p2 6 _ D0.rd (by omega) (by omega) (by omega)).mono ?_
      rintro e w6 ⟨x1,hx1,rfl,hg1,hr1⟩
      have D1:=D0.pick hg1 hr1
      obtain ⟨-,y1,-,f1,-⟩:=D1.cells
      have HD6:=Lib.hid (D1.set1 (x1:Int))
      clear hg1 D0 D1 hr1
      go_wp2_with fail
      go_meet
      case rel=>exact ⟨_,_,_,rfl,by omega,by omega,by omega,HD6.out⟩
     ·have e3:(k == 3)=false:=beq_eq_false_iff_ne.2 k3
      go_wp2_with fail
      go_meet
      case rel=>exact ⟨p2,0,0,rfl,by omega,by omega,by omega,D0⟩
  case rest =>
   clear D0 hG c0
   obtain ⟨p3,a,b,rfl,ha,hb,hp3,D0⟩:=hcut
   go_wp2_with fail
   refine (c_odd base r p3 40 _ D0.rd (by omega) (by omega) (by omega)).mono ?_
   rintro e w6 ⟨o,rfl,hg1,hr1⟩
   have D1:=D0.pick hg1 hr1
   clear D0 hg1 hr1
   cases o with
   | true =>
    obtain ⟨w7,hw7⟩:∃ w7,w6.alloc (.cells #[.int .i64 (-1),.int .i64 61,.int .i64 100] 3)=w7:=⟨_,rfl⟩
    have hb7:Below w6.heap.size w6 w7:=by rw [<- hw7];exact (Below.refl _ w6).alloc (Nat.le_refl _) _
    have l7:w7.heap[w6.heap.size]?=some (.cells #[.int .i64 (-1),.int .i64 61,.int .i64 100] 3 (0,0)):=by rw [<- hw7];exact heap_alloc_new _ _
    have D2:=D1.below hb7
    have hs6:=D1.grown.size
    clear D1 hb7
    go_wp2_with fail
    clear hw7
    refine (c_pickI base r (p3+1) 3 _ D2.rd (by omega) (by omega) (by omega)).mono ?_
    rintro e w8 ⟨x1,hx1,rfl,hg2,hr2⟩
    have D3:=D2.pick hg2 hr2
    obtain ⟨y,hy1,hy2,HL⟩:=litE_val x1 hx1
    have c1:=HL w8 _ _ (blk1 hg2 (by have:=D2.hr;omega) l7)
    have q1:(0:Int)<=(x1:Int):=by omega
    obtain ⟨-,y3,-,f1,-⟩:=D3.cells
    obtain ⟨w9,hw9⟩:∃ w9,w8.setCell ⟨B,1,none⟩ (.int .i64 y)=w9:=⟨_,rfl⟩
    have D4:=D3.set1 y
    rw [hw9] at D4
    clear D2 D3 hg2 hr2 HL l7
    obtain ⟨y0,y1,y2,-,-⟩:=D4.cells
    obtain ⟨z0,z1,z2,g0,g1,g2⟩:=D4.place
    have HF:=Lib.hid (D4.fin (.int .i64 k) (.int .i64 y) (.int .i64 b))
    obtain ⟨Wa,hWa⟩:∃ Wa,w9.setCell ⟨w.heap.size,0,none⟩ (.int .i64 k)=Wa:=⟨_,rfl⟩
    have e2:=D4.res
    have e3:=set3a (.int .i64 k) e2
    rw [hWa] at HF e3
    obtain ⟨Wb,hWb⟩:∃ Wb,Wa.setCell ⟨w.heap.size,1,none⟩ (.int .i64 y)=Wb:=⟨_,rfl⟩
    have e4:=set3b (.int .i64 y) e3
    rw [hWb] at HF e4
    obtain ⟨Wc,hWc⟩:∃ Wc,Wb.setCell ⟨w.heap.size,2,none⟩ (.int .i64 b)=Wc:=⟨_,rfl⟩
    rw [hWc] at HF
    have g3:Wa.frozen? ⟨w.heap.size,1,none⟩=false:=unfrozen_of e3
    have g4:Wb.frozen? ⟨w.heap.size,2,none⟩=false:=unfrozen_of e4
    have z3:=cell_of_row _ _ 1 _ _ _ e3
    have z4:=cell_of_row _ _ 2 _ _ _ e4
    clear D4 e2 e3 e4
    go_wp2_with fail
    obtain ⟨h1,h2,h3⟩:=HF.out
    have k0:=cell_of_row _ _ 0 _ _ _ h1
    have k1:=cell_of_row _ _ 1 _ _ _ h1
    have k2:=cell_of_row _ _ 2 _ _ _ h1
    refine bodyPost_ret (v:=.agg #[.int .i64 k,.int .i64 y,.int .i64 b]) (by simp [results,Tryd.f31,go_sem,k0,k1,k2]) rfl ?_
    exact ⟨k,y,b,rfl,⟨hk0,hk9⟩,by omega,hb,h2,_,by omega,h3⟩
   | false =>
    obtain ⟨y0,y1,y2,-,-⟩:=D1.cells
    obtain ⟨z0,z1,z2,g0,g1,g2⟩:=D1.place
    have HF:=Lib.hid (D1.fin (.int .i64 k) (.int .i64 a) (.int .i64 b))
    obtain ⟨Wa,hWa⟩:∃ Wa,w6.setCell ⟨w.heap.size,0,none⟩ (.int .i64 k)=Wa:=⟨_,rfl⟩
    have e2:=D1.res
    have e3:=set3a (.int .i64 k) e2
    rw [hWa] at HF e3
    obtain ⟨Wb,hWb⟩:∃ Wb,Wa.setCell ⟨w.heap.size,1,none⟩ (.int .i64 a)=Wb:=⟨_,rfl⟩
    have e4:=set3b (.int .i64 a) e3
    rw [hWb] at HF e4
    obtain ⟨Wc,hWc⟩:∃ Wc,Wb.setCell ⟨w.heap.size,2,none⟩ (.int .i64 b)=Wc:=⟨_,rfl⟩
    rw [hWc] at HF
    have g3:Wa.frozen? ⟨w.heap.size,1,none⟩=false:=unfrozen_of e3
    have g4:Wb.frozen? ⟨w.heap.size,2,none⟩=false:=unfrozen_of e4
    have z3:=cell_of_row _ _ 1 _ _ _ e3
    have z4:=cell_of_row _ _ 2 _ _ _ e4
    clear D1 e2 e3 e4
    go_wp2_with fail
    obtain ⟨h1,h2,h3⟩:=HF.out
    have k0:=cell_of_row _ _ 0 _ _ _ h1
    have k1:=cell_of_row _ _ 1 _ _ _ h1
    have k2:=cell_of_row _ _ 2 _ _ _ h1
    refine bodyPost_ret (v:=.agg #[.int .i64 k,.int .i64 a,.int .i64 b]) (by simp [results,Tryd.f31,go_sem,k0,k1,k2]) rfl ?_
    exact ⟨k,a,b,rfl,⟨hk0,hk9⟩,by omega,hb,h2,_,by omega,h3⟩
end Go.Proofs.YticccnkanihpnaaDoor
namespace Go.Proofs.YticccnkanihpnaaDoor
set_option linter.unusedVariables false
open Go.RowKit
attribute [local go_sem ↓] Go.wp_at_zero Go.wp_at_succ
set_option maxHeartbeats 1000000 in
theorem c_odd0 (base r p:Nat) (w:World) (h:Rd w base r p) :
  Calls Tryd.prog 49 #[.pointer (some ⟨r,0,none⟩),.int .i64 0] w fun e w'=>e=.returned (.bool false)∧w'=w:=by
 go_enter Tryd.func49,Tryd.ntmps49
 go_wp2_with fail
 go_ret
 exact ⟨rfl,rfl⟩
set_option maxHeartbeats 4000000 in
theorem c_l20Customers0 (base r p:Nat) (w:World) (h:Rd w base r p) (hp:p<=900000000) :
  Calls Tryd.prog 32 #[.pointer (some ⟨r,0,none⟩),.int .i64 0] w fun e w'=>∃ L v,e=.returned v∧CO w' w.heap.size v L∧L.length<=9∧bdL L∧w.grownBy w' (some r)∧∃ p',p'<=p+40∧Rd w' base r p':=by
 have hrw:=h.2.1
 have hbr:=h.1
 go_enter Tryd.func32,Tryd.ntmps32
 go_wp2_with fail
 have hb0:Below w.heap.size w (w.alloc (.cells #[] 63)):=by (repeat (first | exact rfl | exact Below.refl _ _ | (with_reducible refine Below.drew ?_) | (with_reducible refine Below.drewN ?_ _) | (with_reducible refine Below.alloc ?_ ?_ _) | (with_reducible refine Below.setCell ?_ ?_ _) | (show _<=_;focus (first | omega | (simp;done) | (simp;omega)))))
 have g0:w.grownBy (w.alloc (.cells #[] 63)) (some r):=World.grownBy_alloc _ _ _
 have o0:CO (w.alloc (.cells #[] 63)) w.heap.size (.slice (some ⟨w.heap.size,0,none⟩) 0 0) []:=CO.empty _ (Nat.le_refl _)
 ((with_reducible refine (c_pickI base r p 3 _ (h.keepB hb0 hrw (by omega)) (by omega) (by omega) (by omega)).mono ?_))
 rintro e w1 ⟨x1,hx1,rfl,hg1,hr1⟩
 have g1:=g0.trans hg1
 have o1:=o0.grown hg1 hrw
 clear g0 o0 hg1 h hb0
 go_wp2_with fail
 ((with_reducible refine (c_pickI base r (p+1) 5 _ hr1 (by omega) (by omega) (by omega)).mono ?_))
 rintro e w2 ⟨x2,hx2,rfl,hg2,hr2⟩
 have g2:=g1.trans hg2
 have o2:=o1.grown hg2 hrw
 clear g1 o1 hg2 hr1
 go_wp2_with fail
 have hs2:=g2.size
 have hb2:Below w2.heap.size w2 (w2.alloc (.cells #[.int .i64 3,.int .i64 9] 3)):=by (repeat (first | exact rfl | exact Below.refl _ _ | (with_reducible refine Below.drew ?_) | (with_reducible refine Below.drewN ?_ _) | (with_reducible refine Below.alloc ?_ ?_ _) | (with_reducible refine Below.setCell ?_ ?_ _) | (show _<=_;focus (first | omega | (simp;done) | (simp;omega)))))
 ((with_reducible refine (c_pickI base r (p+2) 2 _ (hr2.keepB hb2 (by omega) (by omega)) (by omega) (by omega) (by omega)).mono ?_))
 rintro e w3 ⟨x3,hx3,rfl,hg3,hr3⟩
 have g3:=(grown_thenB g2 (hb2.mono hs2)).trans hg3
 have o3:=(o2.below hb2 (Nat.le_refl _)).grown hg3 hrw
 obtain ⟨hi,hi1,hi2,hcell⟩:∃ hi:Nat,1<=hi∧hi<=9∧w3.cell? ⟨w2.heap.size,x3,none⟩=some (.int .i64 hi):=by
  have hz:=heap_alloc_new w2 (.cells #[.int .i64 3,.int .i64 9] 3)
  have hq:=fun o=>cell_of_row _ w2.heap.size o _ _ _ hz
  rcases (show x3=0∨x3=1 by omega) with rfl | rfl
  ·exact ⟨3,by omega,by omega,hg3.cell (hq 0) (by simp;omega)⟩
  ·exact ⟨9,by omega,by omega,hg3.cell (hq 1) (by simp;omega)⟩
 clear g2 o2 hg3 hr2 hb2
 go_wp2_with fail
 ((with_reducible refine (c_pickI base r (p+3) 9 _ hr3 (by omega) (by omega) (by omega)).mono ?_))
 rintro e w4 ⟨x4,hx4,rfl,hg4,hr4⟩
 have g4:=g3.trans hg4
 have o4:=o3.grown hg4 hrw
 clear g3 o3 hg4 hr3 hcell
 go_wp2_with fail
 go_loopw [5,6,9] (fun lv tv kv wr=>∃ (L:List (Int×Int)) (t p' k:Nat),kv=.int .i64 k∧tv=.int .i64 t∧L.length+k<=8∧t<=2+5 * L.length∧p'+2 * k<=p+20∧CO wr w.heap.size lv L∧bdL L∧w.grownBy wr (some r)∧Rd wr base r p')
  (fun _ _ kv _=>(intOf kv).toNat)
 case atStart=>exact ⟨[],x1,p+4,x4,rfl,rfl,by simp;omega,by simp;omega,by omega,o4,by simp [bdL],g4,hr4⟩
 case round =>
  obtain ⟨L,t,p',k,rfl,rfl,hLk,ht,hp',hown,hbd,hgr,hrd⟩:=hrel
  by_cases hk:0 < k
  ·have hsr:=hgr.size
   go_wp2_with fail
   ((with_reducible refine (c_pickI base r p' _ _ hrd (by omega) (by omega) (by omega)).mono ?_))
   rintro e w5 ⟨x5,hx5,rfl,hg5,hr5⟩
   have g5:=hgr.trans hg5
   have o5:=hown.grown hg5 hrw
   have hs5:=g5.size
   clear hgr hown hg5 hrd
   go_wp2_with (refine app_C (by rfl) (.tmp 27) (.tmp 34) (by rfl) w.heap.size u5 L (t:Int) (1+(x5:Int)) w5.heap.size (by rfl) (o5.alloc _) (by rfl) (heap_alloc_new _ _) (by omega) (by simp;omega) ?_;intro g cap w6 hown6 hgr6 hb6)
   have hb6':Below w.heap.size w5 w6:=Below.trans (by (repeat (first | exact rfl | exact Below.refl _ _ | (with_reducible refine Below.drew ?_) | (with_reducible refine Below.drewN ?_ _) | (with_reducible refine Below.alloc ?_ ?_ _) | (with_reducible refine Below.setCell ?_ ?_ _) | (show _<=_;focus (first | omega | (simp;done) | (simp;omega)))))) hb6
   have g6:=grown_thenB g5 hb6'
   have r6:=hr5.keepB hb6' hrw (by omega)
   have hs6:=g6.size
   clear g5 o5 hr5 hb6 hgr6 hb6'
   ((with_reducible refine (c_pickI base r (p'+1) _ _ r6 (by omega) (by omega) (by omega)).mono ?_))
   rintro e w7 ⟨x7,hx7,rfl,hg7,hr7⟩
   have g7:=g6.trans hg7
   have o7:=hown6.grown hg7 hrw
   clear g6 hown6 hg7 r6
   go_wp2_with fail
   go_roundw
   case rel =>
    refine ⟨L++[((t:Int),1+(x5:Int))],t+x7,p'+1+1,k - 1,by go_num,by go_num,by simp;omega,by simp;omega,by omega,?_,bdL_snoc hbd (by simp;omega),g7,hr7⟩
    exact o7
   case measure=>simp [intOf];omega
  ·go_wp2_with fail
   refine (c_odd0 base r p' _ hrd).mono ?_
   rintro e w5 ⟨rfl,rfl⟩
   go_wp2_with fail
   go_ret
   exact ⟨L,_,rfl,hown,by omega,hbd,hgr,_,by omega,hrd⟩
end Go.Proofs.YticccnkanihpnaaDoor
namespace Go.Proofs.YticccnkanihpnaaDoor
set_option linter.unusedVariables false
open Go.RowKit
attribute [local go_sem ↓] Go.wp_at_zero Go.wp_at_succ
theorem EO.grownR {w w':World} {base:Nat} {row:Option Nat} {v:Value} {L:List DV} (h:EO w base v L) (hg:w.grownBy w' row) (hr:∀ r,row=some r->r < base):EO w' base v L:=by
 refine ⟨h.1,?_⟩
 have hl:=owns_lt h
 rcases h.2 with h2 | ⟨g,cap,cur,rfl,hgb,hh,rest⟩
 ·exact .inl h2
 ·have:=hl g (by simp [Value.ownBlock])
  exact .inr ⟨g,cap,cur,rfl,hgb,by rw [hg.block g (by omega) (fun e=>by have:=hr _ e.symm;omega)];exact hh,rest⟩
set_option maxRecDepth 8000 in
set_option maxHeartbeats 4000000 in
theorem c_l20Deeds (base r p:Nat) (L:List (Int×Int)) (A:Option Addr) (c:Nat) (w:World) (h:Rd w base r p) (hp:p<=800000000) (hL:L.length<=1000) (hbd:bdX L)
  (hA:∀ W,w.grownBy W (some r)->Cs W W.heap.size A L) :
  Calls Tryd.prog 60 #[.pointer (some ⟨r,0,none⟩),.slice A L.length c] w fun e w'=>∃ v ds,e=.returned v∧EO w' w.heap.size v ds∧ds.length<=5∧w.grownBy w' (some r)∧∃ p',p'<=p+60∧Rd w' base r p':=by
 have hrw:=h.2.1
 have hbr:=h.1
 have hb0:Below w.heap.size w (w.alloc (.cells #[] 24)):=(Below.refl _ w).alloc (Nat.le_refl _) _
 have g0:w.grownBy (w.alloc (.cells #[] 24)) (some r):=World.grownBy_alloc _ _ _
 have o0:EO (w.alloc (.cells #[] 24)) w.heap.size (.slice (some ⟨w.heap.size,0,none⟩) 0 0) []:=EO.empty _ (Nat.le_refl _)
 have HA:=Lib.hid hA
 clear hA
 go_enter Tryd.func60,Tryd.ntmps60
 go_wp2_with fail
 ((with_reducible refine (c_pickI base r p 6 _ (h.keepB hb0 hrw (by omega)) (by omega) (by omega) (by omega)).mono ?_))
 rintro e w1 ⟨x,hx,rfl,hg1,hr1⟩
 have g1:=g0.trans hg1
 have o1:EO w1 w.heap.size (.slice (some ⟨w.heap.size,0,none⟩) 0 0) []:=o0.grownR hg1 (fun k e=>by cases e;omega)
 clear g0 o0 hg1 hb0 h
 go_wp2_with fail
 go_loopw [5,6] (fun v kv wr=>∃ (k q:Nat) (ds:List DV),kv=.int .i64 (k:Int)∧k+ds.length<=5∧q+10 * k<=p+51∧EO wr w.heap.size v ds∧w.grownBy wr (some r)∧Rd wr base r q) (fun _ kv _=>(intOf kv).toNat)
 case atStart=>exact ⟨x,p+1,[],rfl,by simp;omega,by omega,o1,g1,hr1⟩
 case round =>
  clear g1 o1 hr1
  obtain ⟨k,q,ds,rfl,hk,hq,own,gr,rd⟩:=hrel
  have hsr:=gr.size
  by_cases hk0:0 < k
  ·have HL:=Lib.hid (c_l20Deed base r q L A c wr rd (by omega) hL hbd (fun W hg=>HA.out W (gr.trans hg)))
   go_wp2_with fail
   refine HL.out.mono ?_
   rintro e w5 ⟨dk,da,db,rfl,hdk,hda,hdb,hg5,q5,hq5,hr5⟩
   have g5:=gr.trans hg5
   have o5:=own.grownR hg5 (fun k e=>by cases e;omega)
   have hs5:=g5.size
   clear gr own hg5 rd HL
   go_wp2_with (refine app_E ?_ (.tmp 14) (.tmp 18) ?_ w.heap.size u5 ds dk da db w5.heap.size ?_ ?_ ?_ ?_ ?_ ?_ ?_;rfl;rfl;rfl;exact (o5.alloc _);rfl;exact (heap_alloc_new _ _);omega;(first | omega | (simp;omega));intro g cap w6 hown6 hgr6 hb6)
   have hb6':Below w.heap.size w5 w6:=Below.trans (by (repeat (first | exact rfl | exact Below.refl _ _ | (with_reducible refine Below.drew ?_) | (with_reducible refine Below.drewN ?_ _) | (with_reducible refine Below.alloc ?_ ?_ _) | (with_reducible refine Below.setCell ?_ ?_ _) | (show _<=_;focus (first | omega | (simp;done) | (simp;omega)))))) hb6
   have g6:=grown_thenB g5 hb6'
   have r6:=hr5.keepB hb6' hrw (by omega)
   go_wp2_with fail
   go_roundw
   case rel=>exact ⟨k - 1,q5,ds++[⟨dk,da,db⟩],by go_num,by simp;omega,by omega,by simpa using hown6,g6,r6⟩
   case measure=>simp [intOf];omega
  ·go_wp2_with fail
   go_ret
   exact ⟨_,ds,rfl,own,by omega,gr,q,by omega,rd⟩
end Go.Proofs.YticccnkanihpnaaDoor
namespace Go.Proofs.YticccnkanihpnaaDoor
set_option linter.unusedVariables false
open Go.RowKit
attribute [local go_sem ↓] Go.wp_at_zero Go.wp_at_succ
section
variable {w:World}
set_option maxRecDepth 8000 in
theorem app_E2 {ops:Array Oper} {rest:List Oper} {o:Oper} {a:Act} {Q:Exit->Act->World->Prop} (hgd:o.guard=none) (s x:Operand)
  (ho:o.op=.call { callee:=.builtin .append,args:=#[s,x],argTypes:=#[32,32] })
  (base:Nat) (v:Value) (L:List DV) (p q r:Int) (B:Nat) (hs:a.eval s=v) (hown:EO w base v L) (hx:a.eval x=.slice (some ⟨B,0,none⟩) 1 1)
  (hB:w.heap[B]?=some (.cells #[.int .i64 p,.int .i64 q,.int .i64 r] 24 (0,0))) (hlen:L.length<=1000000000000) (hbase:base<=w.heap.size)
  (h:∀ g cap w',EO w' base (.slice (some ⟨g,0,none⟩) (L.length+1) cap) (L++[⟨p,q,r⟩])->w.grownBy w' v.ownBlock->(v.ownBlock=some g∨g=w.heap.size)->wpList Tryd.prog ops Q rest (a.put o.dst (.slice (some ⟨g,0,none⟩) (L.length+1) cap)) w') :
  wpList Tryd.prog ops Q (o::rest) a w:=by
 obtain ⟨i0,hi,hz0,hz1,hz2⟩:=info_parts infoDe
 refine wpList_append_lies w hgd s x _ ho base 24 i0 _ 3 24 Tryd.underlying32 hi hz0 hz1 hz2 rfl (by decide) v L.length _ hs hown
  ⟨B,0,none⟩ 1 1 [.int .i64 p,.int .i64 q,.int .i64 r] hx rfl (World.news_of_block (cs:=#[.int .i64 p,.int .i64 q,.int .i64 r]) hB) (by simp [Value.oneCell']) (by decide) (by simp only [maxLen];omega) (by omega) hbase _ rfl ?_
 intro g cap w' h1 h2 h3 _
 exact h g cap w' (by simpa [EO,flatD_snoc] using h1) h2 h3
end
set_option maxRecDepth 8000 in
set_option maxHeartbeats 4000000 in
theorem c_l20Written (base r p:Nat) (w:World) (h:Rd w base r p) (hp:p<=700000000) :
  Calls Tryd.prog 48 #[.pointer (some ⟨r,0,none⟩)] w fun e w'=>∃ v ds,e=.returned v∧EO w' w.heap.size v ds∧ds.length<=5∧w.grownBy w' (some r)∧∃ p',p'<=p+100∧Rd w' base r p':=by
 have hrw:=h.2.1
 have hbr:=h.1
 have hb0:Below w.heap.size w (w.alloc (.cells #[] 24)):=(Below.refl _ w).alloc (Nat.le_refl _) _
 have g0:w.grownBy (w.alloc (.cells #[] 24)) (some r):=World.grownBy_alloc _ _ _
 have o0:EO (w.alloc (.cells #[] 24)) w.heap.size (.slice (some ⟨w.heap.size,0,none⟩) 0 0) []:=EO.empty _ (Nat.le_refl _)
 go_enter Tryd.func48,Tryd.ntmps48
 go_wp2_with fail
 refine (c_l20Customers0 base r p _ (h.keepB hb0 hrw (by omega)) (by omega)).mono ?_
 rintro e w1 ⟨L,v1,rfl,oc,hl1,hbd1,hg1,p1,hp1,hr1⟩
 obtain ⟨An,cn,rfl,hcn,-,hcs⟩:=oc.form
 have g1:=g0.trans hg1
 have hs1:=g1.size
 have hs01:=hg1.size
 have o1:EO w1 w.heap.size (.slice (some ⟨w.heap.size,0,none⟩) 0 0) []:=o0.grownR hg1 (fun k e=>by cases e;omega)
 have hz0:(w.alloc (.cells #[] 24)).heap.size=w.heap.size+1:=by simp
 rw [hz0] at oc hs01
 have HD:=Lib.hid (c_l20Deeds base r p1 L An cn w1 hr1 (by omega) (by omega) (bdX_of hbd1) (fun W hg=>by
  obtain ⟨A',c',e,-,-,hcs'⟩:=(oc.grownR hg (fun k e=>by cases e;omega)).form
  injection e with e1
  subst e1
  exact hcs'))
 clear g0 o0 hg1 hb0 h hr1
 go_wp2_with fail
 refine HD.out.mono ?_
 rintro e w2 ⟨v2,ds,rfl,o2,hl2,hg2,p2,hp2,hr2⟩
 obtain ⟨A2,c2,rfl,-,-,hA2⟩:=o2.form
 have g2:=g1.trans hg2
 have hs2:=g2.size
 have hs12:=hg2.size
 have o1':EO w2 w.heap.size (.slice (some ⟨w.heap.size,0,none⟩) 0 0) []:=o1.grownR hg2 (fun k e=>by cases e;omega)
 have hob2:=owns_base o2
 clear oc hcs HD o1 g1 hg2
 go_wp2_with fail
 go_loopw [3,5] (fun v kv wr=>∃ (k:Nat) (es:List DV),k<=ds.length∧kv=.int .i64 (k:Int)∧es.length<=k∧EO wr w.heap.size v es∧(∀ q,v.ownBlock=some q->q=w.heap.size∨w2.heap.size<=q)∧(∀ b,w.heap.size < b->b < w2.heap.size->wr.heap[b]?=w2.heap[b]?)∧w.grownBy wr (some r)∧w2.heap.size<=wr.heap.size∧Rd wr base r p2) (fun _ kv _=>ds.length - (intOf kv).toNat)
 case atStart=>exact ⟨0,[],by omega,rfl,by simp,o1',fun q e=>by simp [Value.ownBlock] at e;exact .inl e.symm,fun _ _ _=>rfl,g2,Nat.le_refl _,hr2⟩
 case round =>
  clear o1' g2 hr2
  obtain ⟨k,es,hk,rfl,hes,own,hobk,hkeep,gr,hzw,rd⟩:=hrel
  have hsr:=gr.size
  have p1':(0:Int)<=(k:Int):=by omega
  by_cases hlt:k < ds.length
  ·have p2':(k:Int) < (ds.length:Int):=by omega
   obtain ⟨b,off,rfl,hlb,hcc⟩:=hA2 (by omega)
   have hbb:=hob2 b
   obtain ⟨z0,z1,z2⟩:=hcc k hlt
   have hbl:w.heap.size < b:=by
    rcases o2.2 with ⟨e,_⟩ | ⟨g,cap,cur,e,hgb,-⟩
    ·cases e
    ·injection e with e1 _ _;injection e1 with e1;injection e1 with e1 _ _;omega
   have c0:=(World.cell?_of_block (a:=⟨b,off+k * 3,none⟩) (hkeep b hbl hlb)).trans z0
   have c1:=(World.cell?_of_block (a:=⟨b,off+k * 3+1,none⟩) (hkeep b hbl hlb)).trans z1
   have c2:=(World.cell?_of_block (a:=⟨b,off+k * 3+2,none⟩) (hkeep b hbl hlb)).trans z2
   obtain ⟨⟨dk,da,db⟩,hd⟩:∃ d,ZD ds k=d:=⟨_,rfl⟩
   rw [hd] at c0 c1 c2
   have HT:=Lib.hid (fun W=>c_sDeedText dk da db W)
   clear hcc z0 z1 z2 hd
   by_cases he:deedL ⟨dk,da,db⟩=[]
   ·have hq:(bs (deedL ⟨dk,da,db⟩)).toList=[]:=by rw [bs_list,he]
    have hq2:(bs (deedL ⟨dk,da,db⟩)).toList.isEmpty=true:=by rw [hq];rfl
    clear he
    go_wp2_with fail
    refine (HT.out _).mono ?_
    rintro e w5 ⟨rfl,hb5⟩
    have hs5:=hb5.size
    have o5:=own.below hb5 (Nat.le_refl _)
    go_wp2_with fail
    go_roundw
    case rel=>exact ⟨k+1,es,by omega,by go_num,by omega,o5,hobk,fun b' h1 h2=>(hb5.block b' (by omega)).trans (hkeep b' h1 h2),grown_thenB gr (hb5.mono (by omega)),by omega,rd.keepB hb5 (by have:=rd.2.1;omega) (by have:=rd.2.1;omega)⟩
    case measure=>simp [intOf];omega
   ·have hq:¬ (bs (deedL ⟨dk,da,db⟩)).toList=[]:=by rw [bs_list];exact he
    have hq2:(bs (deedL ⟨dk,da,db⟩)).toList.isEmpty=false:=by simpa using hq
    clear he
    go_wp2_with fail
    refine (HT.out _).mono ?_
    rintro e w5 ⟨rfl,hb5⟩
    have hs5:=hb5.size
    have o5:=own.below hb5 (Nat.le_refl _)
    have e0:=(hb5.cell (p:=⟨b,off+k * 3,none⟩) (show b < wr.heap.size by omega)).trans c0
    have e1:=(hb5.cell (p:=⟨b,off+k * 3+1,none⟩) (show b < wr.heap.size by omega)).trans c1
    have e2:=(hb5.cell (p:=⟨b,off+k * 3+2,none⟩) (show b < wr.heap.size by omega)).trans c2
    have g5:=grown_thenB gr (hb5.mono (show w.heap.size<=wr.heap.size by omega))
    have r5:=rd.keepB hb5 (by have:=rd.2.1;omega) (by have:=rd.2.1;omega)
    have k5:∀ b',w.heap.size < b'->b' < w2.heap.size->w5.heap[b']?=w2.heap[b']?:=fun b' h1 h2=>(hb5.block b' (by omega)).trans (hkeep b' h1 h2)
    clear c0 c1 c2 own hkeep gr rd HT
    go_wp2_with (refine app_E2 (by rfl) (.tmp 23) (.tmp 28) (by rfl) w.heap.size u3 es dk da db w5.heap.size (by rfl) (o5.alloc _) (by rfl) (heap_alloc_new _ _) (by omega) (by simp;omega) ?_;intro g cap w6 hown6 hgr6 hor6)
    have hz6:=World.grownBy.size hgr6
    simp only [World.size_alloc] at hz6 hor6
    have hb6':Below w.heap.size w5 w6:=((Below.refl _ w5).alloc (by omega) _).grown hgr6 (by simp;omega) (fun q e=>owns_base o5 q e)
    go_wp2_with fail
    go_roundw
    case rel =>
     refine ⟨k+1,es++[⟨dk,da,db⟩],by omega,by go_num,by simp;omega,by simpa using hown6,fun q e=>?_,fun b' h1 h2=>?_,grown_thenB g5 hb6',by omega,r5.keepB hb6' hrw (by omega)⟩
     ·have er:g=q:=by simpa [Value.ownBlock] using e
      subst er
      rcases hor6 with h | h
      ·exact hobk _ h
      ·right;omega
     ·exact (hgr6.block b' (by simp;omega) (fun e=>by have:=hobk b' e.symm;omega)).trans ((Below.heap_alloc _ _ _ (by omega)).trans (k5 b' h1 h2))
    case measure=>simp [intOf];omega
  ·have p2':¬ (k:Int) < (ds.length:Int):=by omega
   go_wp2_with fail
   go_ret
   exact ⟨_,rfl,es,own,by omega,gr,p2,by omega,rd⟩
end Go.Proofs.YticccnkanihpnaaDoor
namespace Go.Proofs.YticccnkanihpnaaDoor
set_option linter.unusedVariables false
open Go.RowKit
attribute [local go_sem ↓] Go.wp_at_zero Go.wp_at_succ
set_option maxRecDepth 8000 in
set_option maxHeartbeats 2000000 in
theorem c_DrawJournalText (A:Option Addr) (n c:Nat) (w:World) (h:Bs w w.heap.size A n) (hn:n<=1048576) (hc:n<=c) :
  Calls Tryd.prog 17 #[.slice A n c] w fun e w'=>∃ v ds,e=.returned v∧EO w' w.heap.size v ds∧ds.length<=6∧Below w.heap.size w w':=by
 go_enter Tryd.func17,Tryd.ntmps17
 go_wp2_with fail
 refine (c_l20Open A n c _ h hn hc).mono ?_
 rintro e w1 ⟨r,rfl,hr,hb1⟩
 have hs1:=hb1.size
 have hrb:=hr.1
 clear h
 go_wp2_with fail
 refine (c_l20Written w.heap.size r 0 w1 hr (by omega)).mono ?_
 rintro e w2 ⟨v,ds,rfl,o2,hl2,hg2,p2,hp2,hr2⟩
 have hx2:=hb1.trans (below_grown hg2 hrb hs1)
 have hs2:=hg2.size
 go_wp2_with fail
 refine (c_odd w.heap.size r p2 12 w2 hr2 (by omega) (by omega) (by omega)).mono ?_
 rintro e w3 ⟨b,rfl,hg3,hr3⟩
 have hx3:=hx2.trans (below_grown hg3 hrb (by omega))
 have hs3:=hg3.size
 have o3:=o2.grownR hg3 (fun k e=>by cases e;exact hr.2.1)
 obtain ⟨A3,c3,rfl,-,-,-⟩:=o3.form
 have HL:=Lib.hid (show ds.length<=1000000000000 by omega)
 cases b with
 | true =>
  have q6:w1.heap.size<=(w3.alloc (.cells #[.int .i64 9,.int .i64 0,.int .i64 0] 24)).heap.size:=by simp;omega
  have hxa:Below w.heap.size w (w3.alloc (.cells #[.int .i64 9,.int .i64 0,.int .i64 0] 24)):=hx3.alloc (by omega) _
  clear hg2 hg3 hr2 hr3 o2
  go_wp2_with (refine app_E (by rfl) (.tmp 11) (.tmp 13) (by rfl) w1.heap.size (.slice A3 ds.length c3) ds 9 0 0 w3.heap.size (by rfl) (o3.alloc _) (by rfl) (heap_alloc_new _ _) HL.out q6 ?_;intro g cap w6 hown6 hgr6 hb6)
  go_wp2_with fail
  go_ret
  exact ⟨_,ds++[⟨9,0,0⟩],rfl,by simpa using hown6.mono hs1,by simp;omega,hxa.trans (hb6.mono hs1)⟩
 | false =>
  go_wp2_with fail
  go_ret
  exact ⟨_,ds,rfl,o3.mono hs1,by omega,hx3⟩
end Go.Proofs.YticccnkanihpnaaDoor
namespace Go.Proofs.YticccnkanihpnaaDoor
set_option linter.unusedVariables false
open Go.RowKit
attribute [local go_sem ↓] Go.wp_at_zero Go.wp_at_succ
set_option maxRecDepth 8000 in
set_option maxHeartbeats 2000000 in
theorem c_sameDeeds (L M:List DV) (A B:Option Addr) (BA BB c d:Nat) (w:World) (hA:Ds3 w BA A L) (hB:Ds3 w BB B M) (hx:L.length<=140737488351232) (hy:M.length<=140737488351232) :
  Calls Tryd.prog 21 #[.slice A L.length c,.slice B M.length d] w fun e w'=>e=.returned (.bool (decide (L=M)))∧Below w.heap.size w w':=by
 go_enter Tryd.func21,Tryd.ntmps21
 by_cases hl:L.length=M.length
 ·have hd:((L.length:Int) != (M.length:Int))=false:=by simp [hl]
  have HL:=Lib.hid hl
  clear hl
  go_wp2_with fail
  go_loopw [5] (fun i wr=>∃ k n:Nat,k<=L.length∧i=.int .i64 k∧wr=w.drewN n∧Hid (∀ i,i < k->ZD L i=ZD M i)) (fun i _=>L.length - (intOf i).toNat)
  case atStart=>exact ⟨0,0,Nat.zero_le _,rfl,rfl,Lib.hid fun i h=>by omega⟩
  case round =>
   obtain ⟨k,n,hk,rfl,rfl,HE⟩:=hrel
   by_cases hlt:k < L.length
   ·have hlm:k < M.length:=by have:=HL.out;omega
    obtain ⟨b,off,rfl,hlb,hc⟩:=hA (by omega)
    obtain ⟨b2,off2,rfl,hlb2,hc2⟩:=hB (by omega)
    obtain ⟨c1,c3,c5⟩:=hc k hlt
    obtain ⟨c2,c4,c6⟩:=hc2 k hlm
    have hNE:¬ ZD L k=ZD M k->¬ L=M:=fun h e=>h (by rw [e])
    clear hc hc2
    obtain ⟨x,hxx⟩:∃ x,ZD L k=x:=⟨_,rfl⟩
    obtain ⟨y,hyy⟩:∃ y,ZD M k=y:=⟨_,rfl⟩
    rw [hxx] at c1 c3 c5 hNE
    rw [hyy] at c2 c4 c6 hNE
    have HXY:=Lib.hid (And.intro hxx hyy)
    clear hxx hyy
    obtain ⟨xk,xa,xb⟩:=x
    obtain ⟨yk,ya,yb⟩:=y
    simp only at c1 c2 c3 c4 c5 c6
    by_cases e1:xk=yk
    ·by_cases e2:xa=ya
     ·by_cases e3:xb=yb
      ·subst e1 e2 e3
       have HE2:Hid (∀ i,i < k+1->ZD L i=ZD M i):=Lib.hid fun i hi=>by
        by_cases e:i=k
        ·subst e;rw [HXY.out.1,HXY.out.2]
        ·exact HE.out i (by omega)
       clear hNE
       go_wp2_with fail
       go_quiet (fail)
       go_wp2_with fail
       go_roundw
       case rel=>exact ⟨k+1,_,by omega,by go_num,rfl,HE2⟩
       case measure=>simp [intOf];omega
      ·subst e1 e2
       have f2:(xb != yb)=true:=by simpa using e3
       have f3:(xb == yb)=false:=by simpa using e3
       have HN:=Lib.hid (hNE fun h=>e3 (by injection h))
       clear e3 hNE
       go_wp2_with fail
       go_quiet (fail)
       go_wp2_with fail
       go_ret
       exact ⟨by rw [decide_eq_false HN.out];rfl,by (repeat (first | exact rfl | exact Below.refl _ _ | (with_reducible refine Below.drew ?_) | (with_reducible refine Below.drewN ?_ _) | (with_reducible refine Below.alloc ?_ ?_ _) | (with_reducible refine Below.setCell ?_ ?_ _) | (show _<=_;focus (first | omega | (simp;done) | (simp;omega)))))⟩
     ·subst e1
      have f2:(xa != ya)=true:=by simpa using e2
      have f3:(xa == ya)=false:=by simpa using e2
      have HN:=Lib.hid (hNE fun h=>e2 (by injection h))
      clear e2 hNE
      go_wp2_with fail
      go_quiet (fail)
      go_wp2_with fail
      go_ret
      exact ⟨by rw [decide_eq_false HN.out];rfl,by (repeat (first | exact rfl | exact Below.refl _ _ | (with_reducible refine Below.drew ?_) | (with_reducible refine Below.drewN ?_ _) | (with_reducible refine Below.alloc ?_ ?_ _) | (with_reducible refine Below.setCell ?_ ?_ _) | (show _<=_;focus (first | omega | (simp;done) | (simp;omega)))))⟩
    ·have f2:(xk != yk)=true:=by simpa using e1
     have f3:(xk == yk)=false:=by simpa using e1
     have HN:=Lib.hid (hNE fun h=>e1 (by injection h))
     clear e1 hNE
     go_wp2_with fail
     go_quiet (fail)
     go_wp2_with fail
     go_ret
     exact ⟨by rw [decide_eq_false HN.out];rfl,by (repeat (first | exact rfl | exact Below.refl _ _ | (with_reducible refine Below.drew ?_) | (with_reducible refine Below.drewN ?_ _) | (with_reducible refine Below.alloc ?_ ?_ _) | (with_reducible refine Below.setCell ?_ ?_ _) | (show _<=_;focus (first | omega | (simp;done) | (simp;omega)))))⟩
   ·go_wp2_with fail
    go_ret
    have hLM:L=M:=by
     refine List.ext_getElem HL.out fun i h1 h2=>?_
     have:=HE.out i (by omega)
     have e1:ZD L i=L[i]:=by simp [ZD,h1]
     have e2:ZD M i=M[i]:=by simp [ZD,h2]
     rwa [e1,e2] at this
    exact ⟨by rw [decide_eq_true hLM];rfl,by (repeat (first | exact rfl | exact Below.refl _ _ | (with_reducible refine Below.drew ?_) | (with_reducible refine Below.drewN ?_ _) | (with_reducible refine Below.alloc ?_ ?_ _) | (with_reducible refine Below.setCell ?_ ?_ _) | (show _<=_;focus (first | omega | (simp;done) | (simp;omega)))))⟩
 ·have hd:((L.length:Int) != (M.length:Int))=true:=by simpa using fun h:(L.length:Int)=M.length=>hl (by omega)
  have HL:=Lib.hid hl
  clear hl
  go_wp2_with fail
  go_ret
  exact ⟨by rw [decide_eq_false (show ¬ L=M from fun h=>HL.out (by rw [h]))];rfl,by (repeat (first | exact rfl | exact Below.refl _ _ | (with_reducible refine Below.drew ?_) | (with_reducible refine Below.drewN ?_ _) | (with_reducible refine Below.alloc ?_ ?_ _) | (with_reducible refine Below.setCell ?_ ?_ _) | (show _<=_;focus (first | omega | (simp;done) | (simp;omega)))))⟩
end Go.Proofs.YticccnkanihpnaaDoor
namespace Go.Proofs.YticccnkanihpnaaDoor
set_option linter.unusedVariables false
open Go.RowKit
theorem cells1 (w:World) (x y:Int):Cs (w.alloc (.cells #[.int .i64 x,.int .i64 y] 63)) (w.alloc (.cells #[.int .i64 x,.int .i64 y] 63)).heap.size (some ⟨w.heap.size,0,none⟩) [(x,y)]:=by
 intro _
 have hz:=heap_alloc_new w (.cells #[.int .i64 x,.int .i64 y] 63)
 have hq:=fun o=>cell_of_row _ w.heap.size o _ _ _ hz
 refine ⟨_,0,rfl,by simp,fun k hk=>?_⟩
 obtain rfl:k=0:=by simpa using hk
 exact ⟨hq 0,hq 1⟩
set_option maxHeartbeats 1000000 in
theorem c_alive (w:World) :
  Calls Tryd.prog 13 #[] w fun e w'=>e=.returned (.bool true)∧Below w.heap.size w w':=by
 go_enter Tryd.func13,Tryd.ntmps13
 go_wp2_with fail
 have k1:=c_iCustomersOk [(0,1)] _ 1 _ (cells1 w 0 1) (by simp)
 refine k1.mono ?_
 rintro e w1 ⟨rfl,hb1⟩
 have e1:cOk [(0,1)]=true:=by decide
 rw [e1]
 go_wp2_with fail
 have k2:=c_iCustomersOk [(0,0)] _ 1 _ (cells1 w1 0 0) (by simp)
 refine k2.mono ?_
 rintro e w2 ⟨rfl,hb2⟩
 have e2:cOk [(0,0)]=false:=by decide
 rw [e2]
 go_wp2_with fail
 go_ret
 refine ⟨rfl,?_⟩
 refine Below.trans ?_ (hb2.mono (by have:=hb1.size;simp at this ⊢;omega))
 refine Below.alloc ?_ (by have:=hb1.size;simp at this;omega) _
 refine Below.trans ?_ (hb1.mono (by simp))
 (repeat (first | exact rfl | exact Below.refl _ _ | (with_reducible refine Below.drew ?_) | (with_reducible refine Below.drewN ?_ _) | (with_reducible refine Below.alloc ?_ ?_ _) | (with_reducible refine Below.setCell ?_ ?_ _) | (show _<=_;focus (first | omega | (simp;done) | (simp;omega)))))
end Go.Proofs.YticccnkanihpnaaDoor
namespace Go.Proofs.YticccnkanihpnaaDoor
set_option linter.unusedVariables false
open Go.RowKit Go.ChangeShapes Go.WideShapes Go.ChangeAt
def IsRow (k:IntKind) (w:World) (a:Option Addr) (len cap:Nat) (zs:List Int):Prop :=
 (a=none∧len=0∧cap=0∧zs=[]) ∨
 ∃ x,a=some x∧len<=cap∧cap<=maxLen∧zs.length=cap∧(∀ i,i < zs.length->w.cell? (x.add i)=some (.int k (zs.getD i 0)))∧∀ n ∈ zs,(Lit.int k n).wf=true
theorem IsRow.bs {w:World} {a:Option Addr} {len cap:Nat} {zs:List Int} (h:IsRow .u8 w a len cap zs):Bs w w.heap.size a len∧len<=cap:=by
 rcases h with ⟨rfl,rfl,rfl,rfl⟩ | ⟨x,rfl,hl,hm,hz,hcell,hwz⟩
 ·exact ⟨fun h=>by omega,Nat.le_refl _⟩
 ·refine ⟨fun h0=>?_,hl⟩
  obtain ⟨b,off,spot⟩:=x
  have hc:=hcell 0 (by omega)
  have hspot:spot=none:=by simpa [Addr.add] using World.cell?_spot hc
  subst hspot
  refine ⟨b,off,rfl,?_,fun k hk=>?_⟩
  ·exact World.block_lt_of_cell? w ⟨b,off,none⟩ (by simpa [Addr.add] using hc)
  ·have h1:=hcell k (by omega)
   have e:zs.getD k 0=zs[k]'(by omega):=by simp [List.getD,List.getElem?_eq_getElem (show k < zs.length by omega)]
   have hm:zs.getD k 0 ∈ zs:=by rw [e];exact List.getElem_mem _
   have h2:=bounds_u8 (hwz _ hm)
   refine ⟨zs.getD k 0,?_,h2.1,h2.2⟩
   rw [<- h1]
   by_cases e:k=0
   ·subst e;simp [Addr.add]
   ·simp [Addr.add,e]
end Go.Proofs.YticccnkanihpnaaDoor

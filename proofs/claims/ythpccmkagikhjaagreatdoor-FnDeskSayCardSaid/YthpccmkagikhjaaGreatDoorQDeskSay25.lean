import Derived.Test.YthpccmkagikhjaaGreatDoorQDeskSay3
import Derived.Test.YthpccmkagikhjaaGreatDoorQDeskSay5
import Derived.Test.YthpccmkagikhjaaGreatDoorQDeskSay7
import Derived.Test.YthpccmkagikhjaaGreatDoorQDeskSay9
import Derived.Deep.CutRange
import Derived.Deep.CutBlock
import Derived.ArgAppend
namespace Go.Proofs.YthpccmkagikhjaaGreatDoor
set_option linter.unusedVariables false
open Go.RowKit
set_option maxRecDepth 8000
set_option maxHeartbeats 8000000
section
attribute [local go_sem ↓] Go.wp_at_zero Go.wp_at_succ
def litD:Array Value:=#[.int .i64 0,.int .i64 0,.int .i64 0,.int .i64 1,.int .i64 2,.int .i64 3,.int .i64 4]
theorem litD_val (x:Nat) (hx:(x:Int) < 7):∃ y:Int,0<=y∧y<=4∧∀ (W:World) (b:Nat) (t:TypeId),W.heap[b]?=some (.cells litD t (0,0))->W.cell? ⟨b,x,none⟩=some (.int .i64 y):=by
 rcases (show x=0∨x=1∨x=2∨x=3∨x=4∨x=5∨x=6 by omega) with rfl | rfl | rfl | rfl | rfl | rfl | rfl
 ·exact ⟨0,by omega,by omega,fun W b t h=>cell_of_row W b 0 _ _ _ h⟩
 ·exact ⟨0,by omega,by omega,fun W b t h=>cell_of_row W b 1 _ _ _ h⟩
 ·exact ⟨0,by omega,by omega,fun W b t h=>cell_of_row W b 2 _ _ _ h⟩
 ·exact ⟨1,by omega,by omega,fun W b t h=>cell_of_row W b 3 _ _ _ h⟩
 ·exact ⟨2,by omega,by omega,fun W b t h=>cell_of_row W b 4 _ _ _ h⟩
 ·exact ⟨3,by omega,by omega,fun W b t h=>cell_of_row W b 5 _ _ _ h⟩
 ·exact ⟨4,by omega,by omega,fun W b t h=>cell_of_row W b 6 _ _ _ h⟩
theorem quo59 (x:Nat) (hx:(x:Int) < 60):∃ d:Int,0<=d∧d<=1∧Int.tdiv (x:Int) 59=d:=by
 refine ⟨(x:Int).tdiv 59,?_,?_,rfl⟩ <;> rw [Int.tdiv_eq_ediv_of_nonneg (by omega)] <;> omega
theorem blk1 {W W':World} {r k:Nat} {o:Obj} (hg:W.grownBy W' (some r)) (hr:r≠k) (h:W.heap[k]?=some o):W'.heap[k]?=some o :=
 (hg.block k (Array.getElem?_eq_some_iff.1 h).1 (by simp;omega)).trans h
theorem blk2 {W V W':World} {r k:Nat} {o:Obj} (hb:Below W.heap.size W V) (hg:V.grownBy W' (some r)) (hr:r≠k) (h:W.heap[k]?=some o):W'.heap[k]?=some o :=
 blk1 hg hr ((hb.block k (Array.getElem?_eq_some_iff.1 h).1).trans h)
structure Lev (X a b ab ba:World):Prop where
 ua:Below X.heap.size X a
 ub:Below X.heap.size X b
 uab:Below X.heap.size X ab
 uba:Below X.heap.size X ba
 la:a.heap[X.heap.size]?=some (.cells #[.int .i64 0,.int .i64 0,.int .i64 0,.int .i64 1,.int .i64 2,.int .i64 3,.int .i64 4] 3 (0,0))
 db:b.heap[X.heap.size]?=some (.cells #[.int .i64 0,.int .i64 0,.int .i64 0] 39 (0,0))
 lab:ab.heap[X.heap.size]?=some (.cells #[.int .i64 0,.int .i64 0,.int .i64 0,.int .i64 1,.int .i64 2,.int .i64 3,.int .i64 4] 3 (0,0))
 dab:ab.heap[a.heap.size]?=some (.cells #[.int .i64 0,.int .i64 0,.int .i64 0] 39 (0,0))
 dba:ba.heap[X.heap.size]?=some (.cells #[.int .i64 0,.int .i64 0,.int .i64 0] 39 (0,0))
 lba:ba.heap[b.heap.size]?=some (.cells #[.int .i64 0,.int .i64 0,.int .i64 0,.int .i64 1,.int .i64 2,.int .i64 3,.int .i64 4] 3 (0,0))
 sa:X.heap.size < a.heap.size
 sb:X.heap.size < b.heap.size
theorem lev (X:World):∃ a b ab ba:World,X.alloc (.cells #[.int .i64 0,.int .i64 0,.int .i64 0,.int .i64 1,.int .i64 2,.int .i64 3,.int .i64 4] 3)=a∧X.alloc (.cells #[.int .i64 0,.int .i64 0,.int .i64 0] 39)=b∧a.alloc (.cells #[.int .i64 0,.int .i64 0,.int .i64 0] 39)=ab∧b.alloc (.cells #[.int .i64 0,.int .i64 0,.int .i64 0,.int .i64 1,.int .i64 2,.int .i64 3,.int .i64 4] 3)=ba∧Hid (Lev X a b ab ba):=by
 refine ⟨_,_,_,_,rfl,rfl,rfl,rfl,Lib.hid ⟨?_,?_,?_,?_,heap_alloc_new _ _,heap_alloc_new _ _,(Below.heap_alloc _ _ _ (by simp)).trans (heap_alloc_new _ _),heap_alloc_new _ _,(Below.heap_alloc _ _ _ (by simp)).trans (heap_alloc_new _ _),heap_alloc_new _ _,by simp,by simp⟩⟩
 ·exact (Below.refl _ X).alloc (Nat.le_refl _) _
 ·exact (Below.refl _ X).alloc (Nat.le_refl _) _
 ·exact ((Below.refl _ X).alloc (Nat.le_refl _) _).alloc (by simp) _
 ·exact ((Below.refl _ X).alloc (Nat.le_refl _) _).alloc (by simp) _
theorem finD {w w4 F:World} {base r q n B:Nat} {k:Int} (hn:w.heap.size=n) (hr:r < n) (hbr:base<=r) (hG:w.grownBy w4 (some r)) (hR:Rd w4 base r q) (bR:w4.heap[n]?=some (.cells #[.int .i64 0,.int .i64 0,.int .i64 0] 39 (0,0))) (hb:Below w4.heap.size w4 F) (hD:F.heap[B]?=some (.cells #[.int .i64 0,.int .i64 0,.int .i64 0] 39 (0,0))) (hB:n < B) :
  (((F.setCell ⟨B,0,none⟩ (.int .i64 k)).setCell ⟨B,1,none⟩ (.int .i64 0)).setCell ⟨B,2,none⟩ (.int .i64 0)).heap[B]?=some (.cells #[.int .i64 k,.int .i64 0,.int .i64 0] 39 (0,0)) ∧
    (((F.setCell ⟨B,0,none⟩ (.int .i64 k)).setCell ⟨B,1,none⟩ (.int .i64 0)).setCell ⟨B,2,none⟩ (.int .i64 0)).heap[n]?=some (.cells #[.int .i64 0,.int .i64 0,.int .i64 0] 39 (0,0)) ∧
    w.grownBy (((F.setCell ⟨B,0,none⟩ (.int .i64 k)).setCell ⟨B,1,none⟩ (.int .i64 0)).setCell ⟨B,2,none⟩ (.int .i64 0)) (some r) ∧
    Rd (((F.setCell ⟨B,0,none⟩ (.int .i64 k)).setCell ⟨B,1,none⟩ (.int .i64 0)).setCell ⟨B,2,none⟩ (.int .i64 0)) base r q:=by
 subst hn
 have hG4:=hG.size
 have hc:Below B F (((F.setCell ⟨B,0,none⟩ (.int .i64 k)).setCell ⟨B,1,none⟩ (.int .i64 0)).setCell ⟨B,2,none⟩ (.int .i64 0)):=(((Below.refl _ F).setCell (p:=⟨B,0,none⟩) (Nat.le_refl _) _).setCell (p:=⟨B,1,none⟩) (Nat.le_refl _) _).setCell (p:=⟨B,2,none⟩) (Nat.le_refl _) _
 have hlt:=hR.2.1
 have hF:=hR.keepB hb hlt (by omega)
 refine ⟨set3 _ _ _ hD,(hc.block _ (by omega)).trans ((hb.block _ (Array.getElem?_eq_some_iff.1 bR).1).trans bR),grown_thenB (grown_thenB hG (hb.mono hG4)) (hc.mono (by omega)),hF.keepB hc (by omega) (by omega)⟩
def bdX (L:List (Int×Int)):Prop:=∀ k,k < L.length→-1≤X L k∧X L k≤61
theorem bdX_ok {L:List (Int×Int)} (h:cOk L=true):bdX L:=fun k hk=>by
 have b:=cOk_bd h hk
 omega
theorem quo9 (x:Nat) (hx:(x:Int) < 10):∃ d:Int,0<=d∧d<=1∧Int.tdiv (x:Int) 9=d:=by
 refine ⟨(x:Int).tdiv 9,?_,?_,rfl⟩ <;> rw [Int.tdiv_eq_ediv_of_nonneg (by omega)] <;> omega
theorem quo19 (x:Nat) (hx:(x:Int) < 20):∃ d:Int,0<=d∧d<=1∧Int.tdiv (x:Int) 19=d:=by
 refine ⟨(x:Int).tdiv 19,?_,?_,rfl⟩ <;> rw [Int.tdiv_eq_ediv_of_nonneg (by omega)] <;> omega
theorem set3a {w:World} {R:Nat} {t:TypeId} {x y z:Value} (q:Value) (h:w.heap[R]?=some (.cells #[x,y,z] t (0,0))):(w.setCell ⟨R,0,none⟩ q).heap[R]?=some (.cells #[q,y,z] t (0,0)):=by
 obtain ⟨hlt,he⟩:=Array.getElem?_eq_some_iff.1 h
 rw [Array.getElem?_eq_getElem (by simpa [World.setCell] using hlt)]
 simp [World.setCell,Array.getElem_modify,he]
theorem set3b {w:World} {R:Nat} {t:TypeId} {x y z:Value} (q:Value) (h:w.heap[R]?=some (.cells #[x,y,z] t (0,0))):(w.setCell ⟨R,1,none⟩ q).heap[R]?=some (.cells #[x,q,z] t (0,0)):=by
 obtain ⟨hlt,he⟩:=Array.getElem?_eq_some_iff.1 h
 rw [Array.getElem?_eq_getElem (by simpa [World.setCell] using hlt)]
 simp [World.setCell,Array.getElem_modify,he]
theorem set3c {w:World} {R:Nat} {t:TypeId} {x y z:Value} (q:Value) (h:w.heap[R]?=some (.cells #[x,y,z] t (0,0))):(w.setCell ⟨R,2,none⟩ q).heap[R]?=some (.cells #[x,y,q] t (0,0)):=by
 obtain ⟨hlt,he⟩:=Array.getElem?_eq_some_iff.1 h
 rw [Array.getElem?_eq_getElem (by simpa [World.setCell] using hlt)]
 simp [World.setCell,Array.getElem_modify,he]
structure DdAt (w wx:World) (base r B q:Nat) (k a b:Int):Prop where
 deed:wx.heap[B]?=some (.cells #[.int .i64 k,.int .i64 a,.int .i64 b] 39 (0,0))
 res:wx.heap[w.heap.size]?=some (.cells #[.int .i64 0,.int .i64 0,.int .i64 0] 39 (0,0))
 grown:w.grownBy wx (some r)
 rd:Rd wx base r q
 hr:r < w.heap.size
 hB:w.heap.size < B
theorem DdAt.pick {w wx w':World} {base r B q q':Nat} {k a b:Int} (h:DdAt w wx base r B q k a b) (hg:wx.grownBy w' (some r)) (hr':Rd w' base r q'):DdAt w w' base r B q' k a b:=by
 have h1:=h.hr
 have h2:=h.hB
 exact ⟨blk1 hg (by omega) h.deed,blk1 hg (by omega) h.res,h.grown.trans hg,hr',h.hr,h.hB⟩
theorem DdAt.below {w wx w':World} {base r B q:Nat} {k a b:Int} (h:DdAt w wx base r B q k a b) (hb:Below wx.heap.size wx w'):DdAt w w' base r B q k a b:=by
 have h1:=h.hr
 have h2:=h.hB
 have h3:=h.grown.size
 have h4:=h.rd.1
 exact ⟨(hb.block _ (Array.getElem?_eq_some_iff.1 h.deed).1).trans h.deed,(hb.block _ (Array.getElem?_eq_some_iff.1 h.res).1).trans h.res,grown_thenB h.grown (hb.mono h3),h.rd.keepB hb (by omega) (by omega),h.hr,h.hB⟩
theorem DdAt.low {w wx w':World} {base r B q:Nat} {k a b a' b':Int} (h:DdAt w wx base r B q k a b) (hb:Below B wx w') (hd:w'.heap[B]?=some (.cells #[.int .i64 k,.int .i64 a',.int .i64 b'] 39 (0,0))):DdAt w w' base r B q k a' b':=by
 have h1:=h.hr
 have h2:=h.hB
 have h4:=h.rd.1
 exact ⟨hd,(hb.block _ (by omega)).trans h.res,grown_thenB h.grown (hb.mono (by omega)),h.rd.keepB hb (by omega) (by omega),h.hr,h.hB⟩
theorem DdAt.set1 {w wx:World} {base r B q:Nat} {k a b:Int} (h:DdAt w wx base r B q k a b) (v:Int):DdAt w (wx.setCell ⟨B,1,none⟩ (.int .i64 v)) base r B q k v b :=
 h.low ((Below.refl _ wx).setCell (p:=⟨B,1,none⟩) (Nat.le_refl _) _) (set3b _ h.deed)
theorem DdAt.set2 {w wx:World} {base r B q:Nat} {k a b:Int} (h:DdAt w wx base r B q k a b) (v:Int):DdAt w (wx.setCell ⟨B,2,none⟩ (.int .i64 v)) base r B q k a v :=
 h.low ((Below.refl _ wx).setCell (p:=⟨B,2,none⟩) (Nat.le_refl _) _) (set3c _ h.deed)
theorem DdAt.cells {w wx:World} {base r B q:Nat} {k a b:Int} (h:DdAt w wx base r B q k a b):wx.cell? ⟨B,0,none⟩=some (.int .i64 k)∧wx.cell? ⟨B,1,none⟩=some (.int .i64 a)∧wx.cell? ⟨B,2,none⟩=some (.int .i64 b)∧wx.frozen? ⟨B,1,none⟩=false∧wx.frozen? ⟨B,2,none⟩=false :=
 ⟨cell_of_row _ B 0 _ _ _ h.deed,cell_of_row _ B 1 _ _ _ h.deed,cell_of_row _ B 2 _ _ _ h.deed,unfrozen_of h.deed,unfrozen_of h.deed⟩
theorem DdAt.fin {w wx:World} {base r B q:Nat} {k a b:Int} (h:DdAt w wx base r B q k a b) (x y z:Value) :
  (((wx.setCell ⟨w.heap.size,0,none⟩ x).setCell ⟨w.heap.size,1,none⟩ y).setCell ⟨w.heap.size,2,none⟩ z).heap[w.heap.size]?=some (.cells #[x,y,z] 39 (0,0)) ∧
    w.grownBy (((wx.setCell ⟨w.heap.size,0,none⟩ x).setCell ⟨w.heap.size,1,none⟩ y).setCell ⟨w.heap.size,2,none⟩ z) (some r) ∧
    Rd (((wx.setCell ⟨w.heap.size,0,none⟩ x).setCell ⟨w.heap.size,1,none⟩ y).setCell ⟨w.heap.size,2,none⟩ z) base r q:=by
 have hb:Below w.heap.size wx (((wx.setCell ⟨w.heap.size,0,none⟩ x).setCell ⟨w.heap.size,1,none⟩ y).setCell ⟨w.heap.size,2,none⟩ z):=(((Below.refl _ wx).setCell (p:=⟨w.heap.size,0,none⟩) (Nat.le_refl _) _).setCell (p:=⟨w.heap.size,1,none⟩) (Nat.le_refl _) _).setCell (p:=⟨w.heap.size,2,none⟩) (Nat.le_refl _) _
 have h1:=h.hr
 have h4:=h.rd.1
 exact ⟨set3 _ _ _ h.res,grown_thenB h.grown hb,h.rd.keepB hb h.hr (by omega)⟩
theorem DdAt.place {w wx:World} {base r B q:Nat} {k a b:Int} (h:DdAt w wx base r B q k a b):wx.cell? ⟨w.heap.size,0,none⟩=some (.int .i64 0)∧wx.cell? ⟨w.heap.size,1,none⟩=some (.int .i64 0)∧wx.cell? ⟨w.heap.size,2,none⟩=some (.int .i64 0)∧wx.frozen? ⟨w.heap.size,0,none⟩=false∧wx.frozen? ⟨w.heap.size,1,none⟩=false∧wx.frozen? ⟨w.heap.size,2,none⟩=false :=
 ⟨cell_of_row _ _ 0 _ _ _ h.res,cell_of_row _ _ 1 _ _ _ h.res,cell_of_row _ _ 2 _ _ _ h.res,unfrozen_of h.res,unfrozen_of h.res,unfrozen_of h.res⟩
theorem litE_val (x:Nat) (hx:(x:Int) < 3):∃ y:Int,-1<=y∧y<=100∧∀ (W:World) (b:Nat) (t:TypeId),W.heap[b]?=some (.cells #[.int .i64 (-1),.int .i64 61,.int .i64 100] t (0,0))->W.cell? ⟨b,x,none⟩=some (.int .i64 y):=by
 rcases (show x=0∨x=1∨x=2 by omega) with rfl | rfl | rfl
 ·exact ⟨-1,by omega,by omega,fun W b t h=>cell_of_row W b 0 _ _ _ h⟩
 ·exact ⟨61,by omega,by omega,fun W b t h=>cell_of_row W b 1 _ _ _ h⟩
 ·exact ⟨100,by omega,by omega,fun W b t h=>cell_of_row W b 2 _ _ _ h⟩
theorem c_l20Deed (base r p:Nat) (L:List (Int×Int)) (A:Option Addr) (c:Nat) (w:World) (h:Rd w base r p) (hp:p<=900000000) (hL:L.length<=1000) (hbd:bdX L)
  (hA:∀ W,w.grownBy W (some r)->Cs W W.heap.size A L) :
  Calls Tryz.prog 102 #[.pointer (some ⟨r,0,none⟩),.slice A L.length c] w fun e w'=>∃ k a b:Int,e=.returned (.agg #[.int .i64 k,.int .i64 a,.int .i64 b])∧(0<=k∧k<=9)∧(-1000<=a∧a<=1000)∧(-1000<=b∧b<=1000)∧w.grownBy w' (some r)∧∃ p',p'<=p+10∧Rd w' base r p':=by
 have hrw:=h.2.1
 have hbr:=h.1
 obtain ⟨w0,hw0⟩:∃ w0,w.alloc (.cells #[.int .i64 0,.int .i64 0,.int .i64 0] 39)=w0:=⟨_,rfl⟩
 have hz0:w.heap.size < w0.heap.size:=by rw [<- hw0];simp
 have hb0:Below w.heap.size w w0:=by rw [<- hw0];exact (Below.refl _ w).alloc (Nat.le_refl _) _
 have g0:w.grownBy w0 (some r):=by rw [<- hw0];exact World.grownBy_alloc _ _ _
 have bR:w0.heap[w.heap.size]?=some (.cells #[.int .i64 0,.int .i64 0,.int .i64 0] 39 (0,0)):=by rw [<- hw0];exact heap_alloc_new _ _
 have r0:=h.keepB hb0 hrw (by omega)
 have HA:=Lib.hid hA
 clear hA hb0
 go_enter Tryz.func102,Tryz.ntmps102
 go_upto_region 1 with fail
 clear hw0
 go_cut [5] from 7 to 18 (fun p5 wx=>∃ (B p2:Nat) (k:Int),p5=.pointer (some ⟨B,0,none⟩)∧(0<=k∧k<=9)∧w.heap.size < B∧wx.heap[B]?=some (.cells #[.int .i64 k,.int .i64 0,.int .i64 0] 39 (0,0))∧wx.heap[w.heap.size]?=some (.cells #[.int .i64 0,.int .i64 0,.int .i64 0] 39 (0,0))∧w.grownBy wx (some r)∧p2<=p+2∧Rd wx base r p2)
 case first =>
  obtain ⟨wd,hwd⟩:∃ z,w0.drew=z:=⟨_,rfl⟩
  have hbd0:Below w0.heap.size w0 wd:=by rw [<- hwd];exact (Below.refl _ w0).drew
  have hdz:w.heap.size < wd.heap.size:=by have:=hbd0.size;omega
  obtain ⟨wda,wdb,wdab,wdba,j1,j2,j3,j4,E0⟩:=lev wd
  have s0a:=E0.out.sa
  have s0b:=E0.out.sb
  have rd:=r0.keepB hbd0 (by omega) (by omega)
  have gd:=grown_thenB g0 (hbd0.mono (by omega))
  have bd:=(hbd0.block _ hz0).trans bR
  have RD:=Lib.hid (And.intro rd (And.intro (rd.keepB E0.out.ua (by omega) (by omega)) (And.intro (rd.keepB E0.out.ub (by omega) (by omega)) (And.intro (rd.keepB E0.out.uab (by omega) (by omega)) (rd.keepB E0.out.uba (by omega) (by omega))))))
  have GD:=Lib.hid (And.intro gd (And.intro (grown_thenB gd (E0.out.ua.mono (by omega))) (And.intro (grown_thenB gd (E0.out.ub.mono (by omega))) (And.intro (grown_thenB gd (E0.out.uab.mono (by omega))) (grown_thenB gd (E0.out.uba.mono (by omega)))))))
  have BD:=Lib.hid (And.intro bd (And.intro ((E0.out.ua.block _ hdz).trans bd) (And.intro ((E0.out.ub.block _ hdz).trans bd) (And.intro ((E0.out.uab.block _ hdz).trans bd) ((E0.out.uba.block _ hdz).trans bd)))))
  clear rd gd bd r0 g0 bR hbd0 h
  go_region_with (first
   | (go_at_call 41;(with_reducible refine (c_pickI base r p 7 _ (by first | exact RD.out.1 | exact RD.out.2.1 | exact RD.out.2.2.1 | exact RD.out.2.2.2.1 | exact RD.out.2.2.2.2) (by omega) (by omega) (by omega)).mono ?_);rintro e w3 ⟨x1,hx1,rfl,hg3,hr3⟩;obtain ⟨y,hy0,hy4,HL⟩:=litD_val x1 hx1;obtain ⟨w3a,w3b,w3ab,w3ba,k1,k2,k3,k4,E3⟩:=lev w3;have s30:=hg3.size;(first | (have L3:Hid (w3.heap[wd.heap.size]?=_):=Lib.hid (blk1 hg3 (by omega) E0.out.la);have c1:=HL w3 _ _ L3.out;have c2:=HL w3b _ _ ((E3.out.ub.block _ (Array.getElem?_eq_some_iff.1 L3.out).1).trans L3.out)) | (have D3:Hid (w3.heap[wd.heap.size]?=_):=Lib.hid (blk1 hg3 (by omega) E0.out.db);have c1:=HL w3a _ _ E3.out.la) | (have L3:Hid (w3.heap[wd.heap.size]?=_):=Lib.hid (blk1 hg3 (by omega) E0.out.lab);have D3:=Lib.hid (blk1 hg3 (by omega) E0.out.dab);have c1:=HL w3 _ _ L3.out) | (have D3:Hid (w3.heap[wd.heap.size]?=_):=Lib.hid (blk1 hg3 (by omega) E0.out.dba);have L3:=Lib.hid (blk1 hg3 (by omega) E0.out.lba);have c1:=HL w3 _ _ L3.out) | (have c1:=HL w3a _ _ E3.out.la;have c2:=HL w3ab _ _ E3.out.lab;have c3:=HL w3ba _ _ E3.out.lba));have G3:=Lib.hid (World.grownBy.trans (by first | exact GD.out.1 | exact GD.out.2.1 | exact GD.out.2.2.1 | exact GD.out.2.2.2.1 | exact GD.out.2.2.2.2) hg3);have b3:=Lib.hid (show w3.heap[w.heap.size]?=some (.cells #[.int .i64 0,.int .i64 0,.int .i64 0] 39 (0,0)) from blk1 hg3 (by omega) (by first | exact BD.out.1 | exact BD.out.2.1 | exact BD.out.2.2.1 | exact BD.out.2.2.2.1 | exact BD.out.2.2.2.2));have s3:=G3.out.size;have HL':=Lib.hid HL;have R3:=Lib.hid hr3;have l3:=hr3.2.1;clear HL hg3 hr3)
   | (go_at_call 41;(with_reducible refine (c_pickI base r (p+1) 60 _ (by first | exact R3.out | exact R3.out.keepB E3.out.ua (by omega) (by omega) | exact R3.out.keepB E3.out.ub (by omega) (by omega) | exact R3.out.keepB E3.out.uab (by omega) (by omega) | exact R3.out.keepB E3.out.uba (by omega) (by omega)) (by omega) (by omega) (by omega)).mono ?_);rintro e w4 ⟨x2,hx2,rfl,hg4,hr4⟩;obtain ⟨d,hd0,hd1,hdq⟩:=quo59 x2 hx2;have q0:IntKind.i64.wrap d=d:=IntWalk.i64_in _ (by omega);have q1:IntKind.i64.wrap (d * 5)=d * 5:=IntWalk.i64_in _ (by omega);have q2:IntKind.i64.wrap (y+d * 5)=y+d * 5:=IntWalk.i64_in _ (by omega);obtain ⟨w4a,w4b,w4ab,w4ba,m1,m2,m3,m4,E4⟩:=lev w4;have s40:=hg4.size;have s3a:=E3.out.sa;have s3b:=E3.out.sb;(first | have L4:=Lib.hid (blk1 hg4 (by omega) L3.out) | have L4:=Lib.hid (blk1 hg4 (by omega) E3.out.la) | have L4:=Lib.hid (blk1 hg4 (by omega) E3.out.lab) | have L4:=Lib.hid (blk1 hg4 (by omega) E3.out.lba) | have L4:=Lib.hid (blk2 E3.out.ub hg4 (by omega) L3.out) | skip);(first | have D4:=Lib.hid (blk1 hg4 (by omega) D3.out) | have D4:=Lib.hid (blk1 hg4 (by omega) E3.out.db) | have D4:=Lib.hid (blk1 hg4 (by omega) E3.out.dba) | have D4:=Lib.hid (blk1 hg4 (by omega) E3.out.dab) | have D4:=Lib.hid (blk2 E3.out.ua hg4 (by omega) D3.out) | skip);(first | (have c4:=HL'.out w4 _ _ L4.out;have c5:=HL'.out w4b _ _ ((E4.out.ub.block _ (Array.getElem?_eq_some_iff.1 L4.out).1).trans L4.out)) | (have c4:=HL'.out w4a _ _ E4.out.la;have c5:=HL'.out w4ab _ _ E4.out.lab;have c6:=HL'.out w4ba _ _ E4.out.lba));(first | (have D4a:=Lib.hid ((E4.out.ua.block _ (Array.getElem?_eq_some_iff.1 D4.out).1).trans D4.out);have z0:=unfrozen_of (i:=0) D4.out;have z1:=unfrozen_of (i:=1) D4.out;have z2:=unfrozen_of (i:=2) D4.out;have y0:=cell_of_row _ _ 0 _ _ _ D4.out;have y1:=cell_of_row _ _ 1 _ _ _ D4.out;have y2:=cell_of_row _ _ 2 _ _ _ D4.out;have z3:=unfrozen_of (i:=0) D4a.out;have z4:=unfrozen_of (i:=1) D4a.out;have z5:=unfrozen_of (i:=2) D4a.out;have y3:=cell_of_row _ _ 0 _ _ _ D4a.out;have y4:=cell_of_row _ _ 1 _ _ _ D4a.out;have y5:=cell_of_row _ _ 2 _ _ _ D4a.out) | (have z0:=unfrozen_of (i:=0) E4.out.db;have z1:=unfrozen_of (i:=1) E4.out.db;have z2:=unfrozen_of (i:=2) E4.out.db;have y0:=cell_of_row _ _ 0 _ _ _ E4.out.db;have y1:=cell_of_row _ _ 1 _ _ _ E4.out.db;have y2:=cell_of_row _ _ 2 _ _ _ E4.out.db;have z3:=unfrozen_of (i:=0) E4.out.dab;have z4:=unfrozen_of (i:=1) E4.out.dab;have z5:=unfrozen_of (i:=2) E4.out.dab;have y3:=cell_of_row _ _ 0 _ _ _ E4.out.dab;have y4:=cell_of_row _ _ 1 _ _ _ E4.out.dab;have y5:=cell_of_row _ _ 2 _ _ _ E4.out.dab;have z6:=unfrozen_of (i:=0) E4.out.dba;have z7:=unfrozen_of (i:=1) E4.out.dba;have z8:=unfrozen_of (i:=2) E4.out.dba;have y6:=cell_of_row _ _ 0 _ _ _ E4.out.dba;have y7:=cell_of_row _ _ 1 _ _ _ E4.out.dba;have y8:=cell_of_row _ _ 2 _ _ _ E4.out.dba));have G4:=Lib.hid (World.grownBy.trans (by first | exact G3.out | exact grown_thenB G3.out (E3.out.ua.mono (by omega)) | exact grown_thenB G3.out (E3.out.ub.mono (by omega)) | exact grown_thenB G3.out (E3.out.uab.mono (by omega)) | exact grown_thenB G3.out (E3.out.uba.mono (by omega))) hg4);have b4:=Lib.hid (show w4.heap[w.heap.size]?=some (.cells #[.int .i64 0,.int .i64 0,.int .i64 0] 39 (0,0)) from by first | exact blk1 hg4 (by omega) b3.out | exact blk2 E3.out.ua hg4 (by omega) b3.out | exact blk2 E3.out.ub hg4 (by omega) b3.out | exact blk2 E3.out.uab hg4 (by omega) b3.out | exact blk2 E3.out.uba hg4 (by omega) b3.out);have R4:=Lib.hid hr4;clear hr4 hg4))
  all_goals
   have v1:=E0.out.ua.size
   have v2:=E0.out.ub.size
   have v3:=E0.out.uab.size
   have v4:=E0.out.uba.size
   have v5:=E3.out.ua.size
   have v6:=E3.out.ub.size
   have v7:=E3.out.uab.size
   have v8:=E3.out.uba.size
   have v9:=E4.out.sa
   have v10:=E4.out.sb
   go_wp2_with fail
   go_meet
   case rel=>first
    | (obtain ⟨f1,f2,f3,f4⟩:=finD (k:=y+d * 5) rfl hrw hbr G4.out R4.out b4.out (Below.refl _ _) D4.out (by omega);exact ⟨_,p+1+1,y+d * 5,rfl,⟨by omega,by omega⟩,by omega,f1,f2,f3,by omega,f4⟩)
    | (obtain ⟨f1,f2,f3,f4⟩:=finD (k:=y+d * 5) rfl hrw hbr G4.out R4.out b4.out E4.out.ua D4a.out (by omega);exact ⟨_,p+1+1,y+d * 5,rfl,⟨by omega,by omega⟩,by omega,f1,f2,f3,by omega,f4⟩)
    | (obtain ⟨f1,f2,f3,f4⟩:=finD (k:=y+d * 5) rfl hrw hbr G4.out R4.out b4.out E4.out.ub E4.out.db (by omega);exact ⟨_,p+1+1,y+d * 5,rfl,⟨by omega,by omega⟩,by omega,f1,f2,f3,by omega,f4⟩)
    | (obtain ⟨f1,f2,f3,f4⟩:=finD (k:=y+d * 5) rfl hrw hbr G4.out R4.out b4.out E4.out.uab E4.out.dab (by omega);exact ⟨_,p+1+1,y+d * 5,rfl,⟨by omega,by omega⟩,by omega,f1,f2,f3,by omega,f4⟩)
    | (obtain ⟨f1,f2,f3,f4⟩:=finD (k:=y+d * 5) rfl hrw hbr G4.out R4.out b4.out E4.out.uba E4.out.dba (by omega);exact ⟨_,p+1+1,y+d * 5,rfl,⟨by omega,by omega⟩,by omega,f1,f2,f3,by omega,f4⟩)
 case rest =>
  clear r0 g0 bR h
  obtain ⟨B,p2,k,rfl,⟨hk0,hk9⟩,hwB,bB,bR,hG,hp2,hR⟩:=hcut
  have D0:DdAt w wc base r B p2 k 0 0:=⟨bB,bR,hG,hR,hrw,hwB⟩
  have c0:=cell_of_row _ B 0 _ _ _ bB
  clear bB bR hR
  go_upto_block 0 with fail
  go_cut [5] from 6 to 62 (fun p5 wy=>∃ (p3:Nat) (a b:Int),p5=.pointer (some ⟨B,0,none⟩)∧(-1000<=a∧a<=1000)∧(-1000<=b∧b<=1000)∧p3<=p+6∧DdAt w wy base r B p3 k a b)
  case first =>
   clear c0
   by_cases k0:k=0
   ·subst k0
    go_upto_if 24 with fail
    go_cut [6] from 24 to 31 (fun l wy=>wy=wc∧∃ last:Int,l=.int .i64 last∧-1<=last∧last<=61)
    case first =>
     by_cases hl:0 < L.length
     ·obtain ⟨b,off,rfl,hlb,hcc⟩:=HA.out _ hG hl
      have c1:=(hcc (L.length - 1) (by omega)).1
      have hlast:=hbd (L.length - 1) (show L.length - 1 < L.length by omega)
      have z1:(0:Int)<=(L.length:Int) - 1:=by omega
      have z2:(L.length:Int) - 1 < (L.length:Int):=by omega
      have z3:((L.length:Int) - 1).toNat=L.length - 1:=by omega
      have z4:(1:Int)<=(L.length:Int):=by omega
      clear hcc
      go_wp2_with fail
      go_meet
      case rel=>exact ⟨rfl,_,rfl,hlast.1,hlast.2⟩
     ·have z5:¬ (0:Int) < (L.length:Int):=by omega
      go_wp2_with fail
      go_meet
      case rel=>exact ⟨rfl,_,rfl,by omega,by omega⟩
    case rest =>
     obtain ⟨rfl,last,rfl,hl1,hl2⟩:=hcut
     have D0':=D0
     go_wp2_with fail
     refine (c_pickI base r p2 6 _ D0.rd (by omega) (by omega) (by omega)).mono ?_
     rintro e w6 ⟨x1,hx1,rfl,hg1,hr1⟩
     have D1:=D0.pick hg1 hr1
     have q1:IntKind.i64.wrap (last+(x1:Int))=last+(x1:Int):=IntWalk.i64_in _ (by omega)
     go_wp2_with fail
     refine (c_pickI base r (p2+1) 10 _ D1.rd (by omega) (by omega) (by omega)).mono ?_
     rintro e w7 ⟨x2,hx2,rfl,hg2,hr2⟩
     have D2:=D1.pick hg2 hr2
     obtain ⟨d,hd0,hd1,hdq⟩:=quo9 x2 hx2
     obtain ⟨s,hs,hs0,hs1⟩:∃ s:Int,last+(x1:Int) - d=s∧-10<=s∧s<=100:=⟨_,rfl,by omega,by omega⟩
     have q2:IntKind.i64.wrap d=d:=IntWalk.i64_in _ (by omega)
     have q3:IntKind.i64.wrap s=s:=IntWalk.i64_in _ (by omega)
     obtain ⟨a,ha0,ha1,hm⟩:∃ a:Int,0<=a∧a<=100∧((s < 0∧a=0)∨(¬ s < 0∧a=s)):=by
      by_cases h:s < 0
      ·exact ⟨0,by omega,by omega,.inl ⟨h,rfl⟩⟩
      ·exact ⟨s,by omega,by omega,.inr ⟨h,rfl⟩⟩
     obtain ⟨-,y1,y2,f1,f2⟩:=D2.cells
     have D3:=D2.set1 a
     obtain ⟨w8,hw8⟩:∃ w8,w7.setCell ⟨B,1,none⟩ (.int .i64 a)=w8:=⟨_,rfl⟩
     rw [hw8] at D3
     obtain ⟨-,-,y3,-,f3⟩:=D3.cells
     clear hg1 hg2 D1 D0 D2 hr1 hr2
     rcases hm with ⟨hm,rfl⟩ | ⟨hm,rfl⟩
     all_goals
      go_wp2_with fail
      refine (c_pickI base r (p2+1+1) 9 _ D3.rd (by omega) (by omega) (by omega)).mono ?_
      rintro e w9 ⟨x3,hx3,rfl,hg3,hr3⟩
      have D4:=D3.pick hg3 hr3
      have q4:IntKind.i64.wrap (1+(x3:Int))=1+(x3:Int):=IntWalk.i64_in _ (by omega)
      go_wp2_with fail
      refine (c_pickI base r (p2+1+1+1) 20 _ D4.rd (by omega) (by omega) (by omega)).mono ?_
      rintro e w10 ⟨x4,hx4,rfl,hg4,hr4⟩
      have D5:=D4.pick hg4 hr4
      obtain ⟨d2,hd2,hd3,hdq2⟩:=quo19 x4 hx4
      have q5:IntKind.i64.wrap d2=d2:=IntWalk.i64_in _ (by omega)
      have q6:IntKind.i64.wrap (1+(x3:Int) - d2)=1+(x3:Int) - d2:=IntWalk.i64_in _ (by omega)
      obtain ⟨-,-,y5,-,f5⟩:=D5.cells
      have HD6:=Lib.hid (D5.set2 (1+(x3:Int) - d2))
      clear hg3 hg4 D3 D4 D5 hr3 hr4 D0'
      go_wp2_with fail
      go_meet
      case rel=>exact ⟨_,_,_,rfl,by omega,by omega,by omega,HD6.out⟩
   ·have e0:(k == 0)=false:=beq_eq_false_iff_ne.2 k0
    by_cases k2:k=2
    ·subst k2
     obtain ⟨n,hn1,hn2,hm⟩:∃ n:Int,1<=n∧n<=1000∧(((L.length:Int) < 1∧n=1)∨(¬ (L.length:Int) < 1∧n=(L.length:Int))):=by
      by_cases h:(L.length:Int) < 1
      ·exact ⟨1,by omega,by omega,.inl ⟨h,rfl⟩⟩
      ·exact ⟨L.length,by omega,by omega,.inr ⟨h,rfl⟩⟩
     rcases hm with ⟨hm,rfl⟩ | ⟨hm,rfl⟩
     all_goals
      go_wp2_with fail
      refine (c_pickI base r p2 _ _ D0.rd (by omega) hn1 hn2).mono ?_
      rintro e w6 ⟨x1,hx1,rfl,hg1,hr1⟩
      have D1:=D0.pick hg1 hr1
      obtain ⟨-,y1,-,f1,-⟩:=D1.cells
      have HD6:=Lib.hid (D1.set1 (x1:Int))
      clear hg1 D0 D1 hr1
      go_wp2_with fail
      go_meet
      case rel=>exact ⟨_,_,_,rfl,by omega,by omega,by omega,HD6.out⟩
    ·have e2:(k == 2)=false:=beq_eq_false_iff_ne.2 k2
     by_cases k3:k=3
     ·subst k3
      go_wp2_with fail
      refine (c_pickI base r p2 6 _ D0.rd (by omega) (by omega) (by omega)).mono ?_
      rintro e w6 ⟨x1,hx1,rfl,hg1,hr1⟩
      have D1:=D0.pick hg1 hr1
      obtain ⟨-,y1,-,f1,-⟩:=D1.cells
      have HD6:=Lib.hid (D1.set1 (x1:Int))
      clear hg1 D0 D1 hr1
      go_wp2_with fail
      go_meet
      case rel=>exact ⟨_,_,_,rfl,by omega,by omega,by omega,HD6.out⟩
     ·have e3:(k == 3)=false:=beq_eq_false_iff_ne.2 k3
      go_wp2_with fail
      go_meet
      case rel=>exact ⟨p2,0,0,rfl,by omega,by omega,by omega,D0⟩
  case rest =>
   clear D0 hG c0
   obtain ⟨p3,a,b,rfl,ha,hb,hp3,D0⟩:=hcut
   go_wp2_with fail
   refine (c_odd base r p3 40 _ D0.rd (by omega) (by omega) (by omega)).mono ?_
   rintro e w6 ⟨o,rfl,hg1,hr1⟩
   have D1:=D0.pick hg1 hr1
   clear D0 hg1 hr1
   cases o with
   | true =>
    obtain ⟨w7,hw7⟩:∃ w7,w6.alloc (.cells #[.int .i64 (-1),.int .i64 61,.int .i64 100] 3)=w7:=⟨_,rfl⟩
    have hb7:Below w6.heap.size w6 w7:=by rw [<- hw7];exact (Below.refl _ w6).alloc (Nat.le_refl _) _
    have l7:w7.heap[w6.heap.size]?=some (.cells #[.int .i64 (-1),.int .i64 61,.int .i64 100] 3 (0,0)):=by rw [<- hw7];exact heap_alloc_new _ _
    have D2:=D1.below hb7
    have hs6:=D1.grown.size
    clear D1 hb7
    go_wp2_with fail
    clear hw7
    refine (c_pickI base r (p3+1) 3 _ D2.rd (by omega) (by omega) (by omega)).mono ?_
    rintro e w8 ⟨x1,hx1,rfl,hg2,hr2⟩
    have D3:=D2.pick hg2 hr2
    obtain ⟨y,hy1,hy2,HL⟩:=litE_val x1 hx1
    have c1:=HL w8 _ _ (blk1 hg2 (by have:=D2.hr;omega) l7)
    have q1:(0:Int)<=(x1:Int):=by omega
    obtain ⟨-,y3,-,f1,-⟩:=D3.cells
    obtain ⟨w9,hw9⟩:∃ w9,w8.setCell ⟨B,1,none⟩ (.int .i64 y)=w9:=⟨_,rfl⟩
    have D4:=D3.set1 y
    rw [hw9] at D4
    clear D2 D3 hg2 hr2 HL l7
    obtain ⟨y0,y1,y2,-,-⟩:=D4.cells
    obtain ⟨z0,z1,z2,g0,g1,g2⟩:=D4.place
    have HF:=Lib.hid (D4.fin (.int .i64 k) (.int .i64 y) (.int .i64 b))
    obtain ⟨Wa,hWa⟩:∃ Wa,w9.setCell ⟨w.heap.size,0,none⟩ (.int .i64 k)=Wa:=⟨_,rfl⟩
    have e2:=D4.res
    have e3:=set3a (.int .i64 k) e2
    rw [hWa] at HF e3
    obtain ⟨Wb,hWb⟩:∃ Wb,Wa.setCell ⟨w.heap.size,1,none⟩ (.int .i64 y)=Wb:=⟨_,rfl⟩
    have e4:=set3b (.int .i64 y) e3
    rw [hWb] at HF e4
    obtain ⟨Wc,hWc⟩:∃ Wc,Wb.setCell ⟨w.heap.size,2,none⟩ (.int .i64 b)=Wc:=⟨_,rfl⟩
    rw [hWc] at HF
    have g3:Wa.frozen? ⟨w.heap.size,1,none⟩=false:=unfrozen_of e3
    have g4:Wb.frozen? ⟨w.heap.size,2,none⟩=false:=unfrozen_of e4
    have z3:=cell_of_row _ _ 1 _ _ _ e3
    have z4:=cell_of_row _ _ 2 _ _ _ e4
    clear D4 e2 e3 e4
    go_wp2_with fail
    obtain ⟨h1,h2,h3⟩:=HF.out
    have k0:=cell_of_row _ _ 0 _ _ _ h1
    have k1:=cell_of_row _ _ 1 _ _ _ h1
    have k2:=cell_of_row _ _ 2 _ _ _ h1
    refine bodyPost_ret (v:=.agg #[.int .i64 k,.int .i64 y,.int .i64 b]) (by simp [results,Tryz.f102,go_sem,k0,k1,k2]) rfl ?_
    exact ⟨k,y,b,rfl,⟨hk0,hk9⟩,by omega,hb,h2,_,by omega,h3⟩
   | false =>
    obtain ⟨y0,y1,y2,-,-⟩:=D1.cells
    obtain ⟨z0,z1,z2,g0,g1,g2⟩:=D1.place
    have HF:=Lib.hid (D1.fin (.int .i64 k) (.int .i64 a) (.int .i64 b))
    obtain ⟨Wa,hWa⟩:∃ Wa,w6.setCell ⟨w.heap.size,0,none⟩ (.int .i64 k)=Wa:=⟨_,rfl⟩
    have e2:=D1.res
    have e3:=set3a (.int .i64 k) e2
    rw [hWa] at HF e3
    obtain ⟨Wb,hWb⟩:∃ Wb,Wa.setCell ⟨w.heap.size,1,none⟩ (.int .i64 a)=Wb:=⟨_,rfl⟩
    have e4:=set3b (.int .i64 a) e3
    rw [hWb] at HF e4
    obtain ⟨Wc,hWc⟩:∃ Wc,Wb.setCell ⟨w.heap.size,2,none⟩ (.int .i64 b)=Wc:=⟨_,rfl⟩
    rw [hWc] at HF
    have g3:Wa.frozen? ⟨w.heap.size,1,none⟩=false:=unfrozen_of e3
    have g4:Wb.frozen? ⟨w.heap.size,2,none⟩=false:=unfrozen_of e4
    have z3:=cell_of_row _ _ 1 _ _ _ e3
    have z4:=cell_of_row _ _ 2 _ _ _ e4
    clear D1 e2 e3 e4
    go_wp2_with fail
    obtain ⟨h1,h2,h3⟩:=HF.out
    have k0:=cell_of_row _ _ 0 _ _ _ h1
    have k1:=cell_of_row _ _ 1 _ _ _ h1
    have k2:=cell_of_row _ _ 2 _ _ _ h1
    refine bodyPost_ret (v:=.agg #[.int .i64 k,.int .i64 a,.int .i64 b]) (by simp [results,Tryz.f102,go_sem,k0,k1,k2]) rfl ?_
    exact ⟨k,a,b,rfl,⟨hk0,hk9⟩,by omega,hb,h2,_,by omega,h3⟩
end
section
theorem getD_snoc {vs:List Value} {x:Value} {k n:Nat} (hn:vs.length=n) (hk:k < n+1):(vs++[x]).getD k undef=if k=n then x else vs.getD k undef:=by
 by_cases e:k=n
 ·subst e;subst hn;simp [List.getD_eq_getElem?_getD]
 ·rw [if_neg e,List.getD_eq_getElem?_getD,List.getD_eq_getElem?_getD,List.getElem?_append_left (by omega)]
theorem LL_snoc {Ls:List (List (Int×Int))} {ys:List (Int×Int)} {k n:Nat} (hn:Ls.length=n) (hk:k < n+1):LL (Ls++[ys]) k=if k=n then ys else LL Ls k:=by
 unfold LL
 by_cases e:k=n
 ·subst e;subst hn;simp [List.getD_eq_getElem?_getD]
 ·rw [if_neg e,List.getD_eq_getElem?_getD,List.getD_eq_getElem?_getD,List.getElem?_append_left (by omega)]
theorem PL.grow {w0 w w':World} {base:Nat} {v v' sl:Value} {Ls:List (List (Int×Int))} {ys:List (Int×Int)} {vs:List Value} (h:PL w0 base v Ls vs) (hW:Below w0.heap.size w0 w) (hin:CO w base sl ys) (hsl:∀ r,sl.ownBlock=some r->w0.heap.size<=r)
  (hrow:(v'=.slice none 0 0∧Ls++[ys]=[])∨∃ g off c,v'=.slice (some ⟨g,off,none⟩) (Ls++[ys]).length c∧(Ls++[ys]).length<=c∧c<=maxLen∧base<=g∧g < w'.heap.size ∧
    (∀ k,k < (Ls++[ys]).length->w'.cell? ⟨g,off+k,none⟩=some ((vs++[sl]).getD k undef))∧∀ j,j < c->(w'.cell? ⟨g,off+j,none⟩).isSome=true∧w'.frozen? ⟨g,off+j,none⟩=false)
  (hg:w.grownBy w' v.ownBlock) (hv:v'.ownBlock=v.ownBlock∨∀ r,v'.ownBlock=some r->w.heap.size<=r):PL w' base v' (Ls++[ys]) (vs++[sl]):=by
 have hl:=h.len
 have hlt:∀ k,k < Ls.length->∀ r,(vs.getD k undef).ownBlock=some r->r < w0.heap.size:=fun k hk r hr=>owns_lt (h.inner k hk) r hr
 have hvl:∀ r,v.ownBlock=some r->r < w0.heap.size:=fun r hr=>(h.base_lt r hr).2
 have hsz:=hW.size
 have hsll:∀ r,sl.ownBlock=some r->r < w.heap.size:=fun r hr=>owns_lt hin r hr
 have hlen:(Ls++[ys]).length=Ls.length+1:=by simp
 refine ⟨hrow,by simp [hl],fun k hk=>?_,fun k hk r hr=>?_,fun i j hi hj hij r hr=>?_⟩
 ·rw [hlen] at hk
  rw [getD_snoc hl hk,LL_snoc rfl hk]
  by_cases e:k=Ls.length
  ·rw [if_pos e,if_pos e]
   exact hin.grownR' hg (fun r hr e2=>by have:=hvl r e2;have:=hsl r hr;omega)
  ·rw [if_neg e,if_neg e]
   exact ((h.inner k (by omega)).below hW (Nat.le_refl _)).grownR' hg (fun r hr e2=>h.apart k (by omega) r hr e2)
 ·rw [hlen] at hk
  rw [getD_snoc hl hk] at hr
  intro e2
  by_cases e:k=Ls.length
  ·rw [if_pos e] at hr
   rcases hv with hv | hv
   ·rw [hv] at e2;have:=hvl r e2;have:=hsl r hr;omega
   ·have:=hv r e2;have:=hsll r hr;omega
  ·rw [if_neg e] at hr
   rcases hv with hv | hv
   ·rw [hv] at e2;exact h.apart k (by omega) r hr e2
   ·have:=hv r e2;have:=hlt k (by omega) r hr;omega
 ·rw [hlen] at hi hj
  rw [getD_snoc hl hi] at hr
  rw [getD_snoc hl hj]
  intro e2
  by_cases ei:i=Ls.length
  ·rw [if_pos ei] at hr
   rw [if_neg (by omega)] at e2
   have:=hlt j (by omega) r e2;have:=hsl r hr;omega
  ·rw [if_neg ei] at hr
   by_cases ej:j=Ls.length
   ·rw [if_pos ej] at e2
    have:=hlt i (by omega) r hr;have:=hsl r e2;omega
   ·rw [if_neg ej] at e2
    exact h.diff i j (by omega) (by omega) hij r hr e2
section
variable {w:World}
theorem app_PL {ops:Array Oper} {rest:List Oper} {o:Oper} {a:Act} {Q:Exit->Act->World->Prop} (hgd:o.guard=none) (s x:Operand)
  (ho:o.op=.call { callee:=.builtin .append,args:=#[s,x],argTypes:=#[29,29] })
  (base:Nat) (v:Value) (Ls:List (List (Int×Int))) (vs:List Value) (w0:World) (sl:Value) (ys:List (Int×Int)) (B:Nat) (hs:a.eval s=v) (hown:PL w0 base v Ls vs) (hW:Below w0.heap.size w0 w)
  (hin:CO w base sl ys) (hsl:∀ r,sl.ownBlock=some r->w0.heap.size<=r) (hone:sl.oneCell'=true) (hx:a.eval x=.slice (some ⟨B,0,none⟩) 1 1)
  (hB:w.heap[B]?=some (.cells #[sl] 28 (0,0))) (hlen:Ls.length<=1000000000) (hbase:base<=w.heap.size)
  (h:∀ g off cap w',PL w' base (.slice (some ⟨g,off,none⟩) (Ls.length+1) cap) (Ls++[ys]) (vs++[sl])->w.grownBy w' v.ownBlock->Below base w w'->(v.ownBlock=some g∨w.heap.size<=g)->wpList Tryz.prog ops Q rest (a.put o.dst (.slice (some ⟨g,off,none⟩) (Ls.length+1) cap)) w') :
  wpList Tryz.prog ops Q (o::rest) a w:=by
 obtain ⟨i0,hi0,hz0,hz1,hz2⟩:=info_parts infoCS
 have hl:=hown.len
 have hbl:∀ r,v.ownBlock=some r->base<=r:=fun r hr=>(hown.base_lt r hr).1
 rcases hown.row with ⟨rfl,rfl⟩ | ⟨g,off,c,rfl,h1,h2,h3,h4,h5,h6⟩
 ·have hv0:vs=[]:=List.eq_nil_of_length_eq_zero hl
  subst hv0
  refine app_CO hgd s x ho base _ [] [] w0 sl ys B hs (COO.nil _ _) hW hin hsl hone hx hB (by simp) hbase ?_
  intro g cap w' h1 h2 h3 h4
  exact h g 0 cap w' (PL.ofCOO h1) h2 h4 (h3.imp id fun e=>by omega)
 ·have hsz:=hW.size
  have hb:∀ o2,w.heap[(⟨g,o2,none⟩:Addr).block]?=w0.heap[(⟨g,o2,none⟩:Addr).block]?:=fun o2=>hW.block g h4
  have c5:∀ k,k < Ls.length->w.cell? ⟨g,off+k,none⟩=some (vs.getD k undef):=fun k hk=>(World.cell?_of_block (hb _)).trans (h5 k hk)
  have c6:∀ j,j < c->(w.cell? ⟨g,off+j,none⟩).isSome=true∧w.frozen? ⟨g,off+j,none⟩=false:=fun j hj=>by
   have:=h6 j hj
   rw [World.cell?_of_block (hb _),World.frozen?_of_block (hb _)]
   exact this
  have holds:∀ j u,vs[j]?=some u->w.cell? ⟨g,off+j,none⟩=some u:=by
   intro j u hj
   have hjl:j < vs.length:=(List.getElem?_eq_some_iff.1 hj).1
   rw [c5 j (by omega),List.getD_eq_getElem?_getD,hj];rfl
  refine wpList_append_arg w hgd s x _ ho 28 i0 _ 1 24 Tryz.underlying29 hi0 hz0 hz1 hz2 rfl (by decide) g off Ls.length c vs hs (by omega) holds
   ⟨B,0,none⟩ 1 1 [sl] hx rfl (World.news_of_block (cs:=#[sl]) hB) (by simpa using hone) (fun hr j hj=>?_) (by simp only [maxLen];omega) (by omega) (fun hr=>?_) (fun hr v' w' ho2 hg2=>?_)
  ·simp only [List.length_singleton] at hj
   obtain rfl:j=0:=by omega
   rw [Nat.mul_one,Nat.add_zero]
   exact c6 _ (by omega)
  ·have es:w.setCells g (off+Ls.length * 1) [sl]=w.setCell ⟨g,off+Ls.length,none⟩ sl:=by rw [Nat.mul_one];rfl
   rw [es]
   have hgs:w.grownBy (w.setCell ⟨g,off+Ls.length,none⟩ sl) (some g):=⟨rfl,rfl,rfl,by simp [World.setCell],fun k _ hk=>Below.heap_setCell _ _ _ k (fun e=>hk (by rw [e]))⟩
   refine h g off c _ (hown.grow hW hin hsl (.inr ⟨g,off,c,by simp,by simp;omega,h2,h3,by simp [World.setCell];omega,fun j hj=>?_,fun j hj=>?_⟩) hgs (.inl rfl)) hgs ((Below.refl _ w).grown hgs hbase (fun k e=>by cases e;exact h3)) (.inl rfl)
   ·rw [List.length_append,List.length_singleton] at hj
    rw [getD_snoc hl hj]
    by_cases e:j=Ls.length
    ·subst e
     rw [if_pos rfl]
     exact World.cell?_setCell_same' w _ _ (c6 Ls.length (by omega)).1
    ·rw [if_neg e,World.cell?_setCell_other (w:=w) (v:=sl) (a:=⟨g,off+Ls.length,none⟩) (b:=⟨g,off+j,none⟩) (by intro e2;injection e2;omega),c5 j (by omega)]
   ·have:=c6 j hj
    refine ⟨?_,by rw [World.frozen?_setCell];exact this.2⟩
    by_cases e:j=Ls.length
    ·subst e;rw [World.cell?_setCell_same' w _ _ this.1];rfl
    ·rw [World.cell?_setCell_other (w:=w) (v:=sl) (a:=⟨g,off+Ls.length,none⟩) (b:=⟨g,off+j,none⟩) (by intro e2;injection e2;omega)];exact this.1
  ·obtain ⟨b2,c2,cur,rfl,q1,q2,q3,q4,q5,q6⟩:∃ g' cap cur,v'=.slice (some ⟨g',0,none⟩) (Ls.length+1) cap∧w.heap.size<=g'∧w'.heap[g']?=some (.cells cur 28 (0,0))∧Ls.length+1<=cap∧cap<=maxLen∧cur.size=cap * 1∧cur.toList.take ((Ls.length+1) * 1)=vs++[sl]:=by
    rcases ho2.2 with ⟨_,h0⟩ | h9
    ·omega
    ·exact h9
   have hgw:w.grownBy w' (Value.slice (some ⟨g,off,none⟩) Ls.length c).ownBlock:=⟨hg2.os,hg2.tape,hg2.output,hg2.size,fun k hk _=>hg2.block k hk (by simp)⟩
   have hlt2:=(Array.getElem?_eq_some_iff.1 q2).1
   refine h b2 0 c2 w' (hown.grow hW hin hsl (.inr ⟨b2,0,c2,by simp,by simp;omega,q4,by omega,hlt2,fun j hj=>?_,fun j hj=>?_⟩) hgw (.inr fun r hr=>?_)) hgw ((Below.refl _ w).grown hgw hbase (fun k e=>hbl k e)) (.inr q1)
   ·rw [List.length_append,List.length_singleton] at hj
    rw [Nat.zero_add]
    have:=World.ownsRow.cellAt ho2 j (by simp;omega)
    rw [this,List.getD_eq_getElem?_getD]
    simp [show j < vs.length+1 by omega]
   ·rw [Nat.zero_add]
    refine ⟨?_,World.ownsRow.frozenAt ho2 j⟩
    rw [cell_of_row w' b2 j cur _ _ q2,Array.getElem?_eq_getElem (by omega)];rfl
   ·simp only [Value.ownBlock,Option.some.injEq] at hr;omega
end
theorem two_at {wx:World} {B:Nat} {x y:Value} (h:wx.heap[B]?=some (.cells #[x,y] 31 (0,0))):wx.cell? ⟨B,0,none⟩=some x∧wx.cell? ⟨B,1,none⟩=some y∧wx.frozen? ⟨B,0,none⟩=false∧wx.frozen? ⟨B,1,none⟩=false :=
 ⟨cell_of_row _ B 0 _ _ _ h,cell_of_row _ B 1 _ _ _ h,by simp [World.frozen?,h],by simp [World.frozen?,h]⟩
theorem CO.sameB {w W:World} {base:Nat} {v:Value} {L:List (Int×Int)} (h:CO w base v L) (hk:∀ k,base<=k->k < w.heap.size->W.heap[k]?=w.heap[k]?):CO W base v L:=by
 have hl:=owns_lt h
 refine ⟨h.1,?_⟩
 rcases h.2 with h2 | ⟨g,cap,cur,rfl,hgb,hh,rest⟩
 ·exact .inl h2
 ·exact .inr ⟨g,cap,cur,rfl,hgb,(hk g hgb (hl g (by simp [Value.ownBlock]))).trans hh,rest⟩
theorem PL.sameB {w W:World} {base:Nat} {v:Value} {Ls:List (List (Int×Int))} {vs:List Value} (h:PL w base v Ls vs) (hz:w.heap.size<=W.heap.size) (hk:∀ k,base<=k->k < w.heap.size->W.heap[k]?=w.heap[k]?):PL W base v Ls vs:=by
 refine ⟨?_,h.len,fun k hkl=>(h.inner k hkl).sameB hk,h.apart,h.diff⟩
 rcases h.row with h0 | ⟨g,off,c,rfl,h1,h2,h3,h4,h5,h6⟩
 ·exact .inl h0
 ·have hb:∀ o,(W.heap[(⟨g,o,none⟩:Addr).block]?)=w.heap[(⟨g,o,none⟩:Addr).block]?:=fun o=>hk g h3 h4
  exact .inr ⟨g,off,c,rfl,h1,h2,h3,Nat.lt_of_lt_of_le h4 hz,fun j hj=>(World.cell?_of_block (hb _)).trans (h5 j hj),fun j hj=>by
   have:=h6 j hj
   rw [World.cell?_of_block (hb _),World.frozen?_of_block (hb _)]
   exact this⟩
theorem KO.sameB {w W:World} {base:Nat} {vn vp:Value} {D:KV} {vs:List Value} (h:KO w base vn vp D vs) (hz:w.heap.size<=W.heap.size) (hk:∀ k,base<=k->k < w.heap.size->W.heap[k]?=w.heap[k]?):KO W base vn vp D vs :=
 ⟨h.now.sameB hk,h.past.sameB hz hk,h.apn,h.api⟩
end
end Go.Proofs.YthpccmkagikhjaaGreatDoor

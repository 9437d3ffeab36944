import Derived.Test.YthpccmkagikhjaaGreatDoorQReadJournal18
namespace Go.Proofs.YthpccmkagikhjaaGreatDoor
set_option linter.unusedVariables false
open Go.RowKit
set_option maxRecDepth 8000
set_option maxHeartbeats 8000000
section
attribute [local go_sem ↓] Go.wp_at_zero Go.wp_at_succ
theorem c_odd0 (base r p:Nat) (w:World) (h:Rd w base r p) :
  Calls Tryz.prog 47 #[.pointer (some ⟨r,0,none⟩),.int .i64 0] w fun e w'=>e=.returned (.bool false)∧w'=w:=by
 go_enter Tryz.func47,Tryz.ntmps47
 go_wp2_with fail
 go_ret
 exact ⟨rfl,rfl⟩
theorem c_l20Customers0 (base r p:Nat) (w:World) (h:Rd w base r p) (hp:p<=900000000) :
  Calls Tryz.prog 95 #[.pointer (some ⟨r,0,none⟩),.int .i64 0] w fun e w'=>∃ L v,e=.returned v∧CO w' w.heap.size v L∧L.length<=9∧bdL L∧w.grownBy w' (some r)∧∃ p',p'<=p+40∧Rd w' base r p':=by
 have hrw:=h.2.1
 have hbr:=h.1
 go_enter Tryz.func95,Tryz.ntmps95
 go_wp2_with fail
 have hb0:Below w.heap.size w (w.alloc (.cells #[] 100)):=by (repeat (first | exact rfl | exact Below.refl _ _ | (with_reducible refine Below.drew ?_) | (with_reducible refine Below.drewN ?_ _) | (with_reducible refine Below.alloc ?_ ?_ _) | (with_reducible refine Below.setCell ?_ ?_ _) | (show _<=_;focus (first | omega | (simp;done) | (simp;omega)))))
 have g0:w.grownBy (w.alloc (.cells #[] 100)) (some r):=World.grownBy_alloc _ _ _
 have o0:CO (w.alloc (.cells #[] 100)) w.heap.size (.slice (some ⟨w.heap.size,0,none⟩) 0 0) []:=CO.empty _ (Nat.le_refl _)
 ((with_reducible refine (c_pickI base r p 3 _ (h.keepB hb0 hrw (by omega)) (by omega) (by omega) (by omega)).mono ?_))
 rintro e w1 ⟨x1,hx1,rfl,hg1,hr1⟩
 have g1:=g0.trans hg1
 have o1:=o0.grown hg1 hrw
 clear g0 o0 hg1 h hb0
 go_wp2_with fail
 ((with_reducible refine (c_pickI base r (p+1) 5 _ hr1 (by omega) (by omega) (by omega)).mono ?_))
 rintro e w2 ⟨x2,hx2,rfl,hg2,hr2⟩
 have g2:=g1.trans hg2
 have o2:=o1.grown hg2 hrw
 clear g1 o1 hg2 hr1
 go_wp2_with fail
 have hs2:=g2.size
 have hb2:Below w2.heap.size w2 (w2.alloc (.cells #[.int .i64 3,.int .i64 9] 3)):=by (repeat (first | exact rfl | exact Below.refl _ _ | (with_reducible refine Below.drew ?_) | (with_reducible refine Below.drewN ?_ _) | (with_reducible refine Below.alloc ?_ ?_ _) | (with_reducible refine Below.setCell ?_ ?_ _) | (show _<=_;focus (first | omega | (simp;done) | (simp;omega)))))
 ((with_reducible refine (c_pickI base r (p+2) 2 _ (hr2.keepB hb2 (by omega) (by omega)) (by omega) (by omega) (by omega)).mono ?_))
 rintro e w3 ⟨x3,hx3,rfl,hg3,hr3⟩
 have g3:=(grown_thenB g2 (hb2.mono hs2)).trans hg3
 have o3:=(o2.below hb2 (Nat.le_refl _)).grown hg3 hrw
 obtain ⟨hi,hi1,hi2,hcell⟩:∃ hi:Nat,1<=hi∧hi<=9∧w3.cell? ⟨w2.heap.size,x3,none⟩=some (.int .i64 hi):=by
  have hz:=heap_alloc_new w2 (.cells #[.int .i64 3,.int .i64 9] 3)
  have hq:=fun o=>cell_of_row _ w2.heap.size o _ _ _ hz
  rcases (show x3=0∨x3=1 by omega) with rfl | rfl
  ·exact ⟨3,by omega,by omega,hg3.cell (hq 0) (by simp;omega)⟩
  ·exact ⟨9,by omega,by omega,hg3.cell (hq 1) (by simp;omega)⟩
 clear g2 o2 hg3 hr2 hb2
 go_wp2_with fail
 ((with_reducible refine (c_pickI base r (p+3) 9 _ hr3 (by omega) (by omega) (by omega)).mono ?_))
 rintro e w4 ⟨x4,hx4,rfl,hg4,hr4⟩
 have g4:=g3.trans hg4
 have o4:=o3.grown hg4 hrw
 clear g3 o3 hg4 hr3 hcell
 go_wp2_with fail
 go_loopw [5,6,9] (fun lv tv kv wr=>∃ (L:List (Int×Int)) (t p' k:Nat),kv=.int .i64 k∧tv=.int .i64 t∧L.length+k<=8∧t<=2+5 * L.length∧p'+2 * k<=p+20∧CO wr w.heap.size lv L∧bdL L∧w.grownBy wr (some r)∧Rd wr base r p')
  (fun _ _ kv _=>(intOf kv).toNat)
 case atStart=>exact ⟨[],x1,p+4,x4,rfl,rfl,by simp;omega,by simp;omega,by omega,o4,by simp [bdL],g4,hr4⟩
 case round =>
  obtain ⟨L,t,p',k,rfl,rfl,hLk,ht,hp',hown,hbd,hgr,hrd⟩:=hrel
  by_cases hk:0 < k
  ·have hsr:=hgr.size
   go_wp2_with fail
   ((with_reducible refine (c_pickI base r p' _ _ hrd (by omega) (by omega) (by omega)).mono ?_))
   rintro e w5 ⟨x5,hx5,rfl,hg5,hr5⟩
   have g5:=hgr.trans hg5
   have o5:=hown.grown hg5 hrw
   have hs5:=g5.size
   clear hgr hown hg5 hrd
   go_wp2_with (refine app_C (by rfl) (.tmp 27) (.tmp 34) (by rfl) w.heap.size u5 L (t:Int) (1+(x5:Int)) w5.heap.size (by rfl) (o5.alloc _) (by rfl) (heap_alloc_new _ _) (by omega) (by simp;omega) ?_;intro g cap w6 hown6 hgr6 hb6)
   have hb6':Below w.heap.size w5 w6:=Below.trans (by (repeat (first | exact rfl | exact Below.refl _ _ | (with_reducible refine Below.drew ?_) | (with_reducible refine Below.drewN ?_ _) | (with_reducible refine Below.alloc ?_ ?_ _) | (with_reducible refine Below.setCell ?_ ?_ _) | (show _<=_;focus (first | omega | (simp;done) | (simp;omega)))))) hb6
   have g6:=grown_thenB g5 hb6'
   have r6:=hr5.keepB hb6' hrw (by omega)
   have hs6:=g6.size
   clear g5 o5 hr5 hb6 hgr6 hb6'
   ((with_reducible refine (c_pickI base r (p'+1) _ _ r6 (by omega) (by omega) (by omega)).mono ?_))
   rintro e w7 ⟨x7,hx7,rfl,hg7,hr7⟩
   have g7:=g6.trans hg7
   have o7:=hown6.grown hg7 hrw
   clear g6 hown6 hg7 r6
   go_wp2_with fail
   go_roundw
   case rel =>
    refine ⟨L++[((t:Int),1+(x5:Int))],t+x7,p'+1+1,k - 1,by go_num,by go_num,by simp;omega,by simp;omega,by omega,?_,bdL_snoc hbd (by simp;omega),g7,hr7⟩
    exact o7
   case measure=>simp [intOf];omega
  ·go_wp2_with fail
   refine (c_odd0 base r p' _ hrd).mono ?_
   rintro e w5 ⟨rfl,rfl⟩
   go_wp2_with fail
   go_ret
   exact ⟨L,_,rfl,hown,by omega,hbd,hgr,_,by omega,hrd⟩
structure DskP (w':World) (base:Nat) (vn vp:Value) (D:KV):Prop where
 ks:∀ W,w'.heap.size<=W.heap.size->(∀ k,base<=k->k < w'.heap.size->W.heap[k]?=w'.heap[k]?)->Ks W W.heap.size vn vp D
 small:SmallK D
 bd:bdX D.now
 len:D.now.length<=1000
theorem DskP.ofKO {w':World} {base:Nat} {vn vp:Value} {D:KV} {vs:List Value} (h:KO w' base vn vp D vs) (hs:SmallK D) (hb:bdX D.now) (hl:D.now.length<=1000):DskP w' base vn vp D :=
 ⟨fun W hz hk=>(h.sameB hz hk).ks,hs,hb,hl⟩
theorem DskP.low {w' W:World} {base r:Nat} {vn vp:Value} {D:KV} (h:DskP w' base vn vp D) (hg:w'.grownBy W (some r)) (hr:r < base):DskP W base vn vp D :=
 ⟨fun W2 hz hk=>h.ks W2 (Nat.le_trans hg.size hz) (fun k h1 h2=>(hk k h1 (Nat.lt_of_lt_of_le h2 hg.size)).trans (hg.block k h2 (by simp;omega))),h.small,h.bd,h.len⟩
theorem DskP.below {w' W:World} {base B:Nat} {vn vp:Value} {D:KV} (h:DskP w' base vn vp D) (hb:Below B w' W) (hB:w'.heap.size<=B):DskP W base vn vp D :=
 ⟨fun W2 hz hk=>h.ks W2 (Nat.le_trans hb.size hz) (fun k h1 h2=>(hk k h1 (Nat.lt_of_lt_of_le h2 hb.size)).trans (hb.block k (by omega))),h.small,h.bd,h.len⟩
theorem DskP.mono {w':World} {base base':Nat} {vn vp:Value} {D:KV} (h:DskP w' base vn vp D) (hB:base'<=base):DskP w' base' vn vp D :=
 ⟨fun W hz hk=>h.ks W hz (fun k h1 h2=>hk k (by omega) h2),h.small,h.bd,h.len⟩
theorem DskP.now {w':World} {base:Nat} {vn vp:Value} {D:KV} (h:DskP w' base vn vp D):Ks w' w'.heap.size vn vp D:=h.ks w' (Nat.le_refl _) (fun _ _ _=>rfl)
theorem Ks.slices {w:World} {B:Nat} {vn vp:Value} {D:KV} (h:Ks w B vn vp D):∃ A c A' c',vn=.slice A D.now.length c∧vp=.slice A' D.past.length c':=by
 obtain ⟨⟨A,c,e1,-,-⟩,A',c',e2,-,-⟩:=h
 exact ⟨A,c,A',c',e1,e2⟩
theorem DskP.cs {w':World} {base r:Nat} {A:Option Addr} {n c:Nat} {vp:Value} {D:KV} (h:DskP w' base (.slice A n c) vp D) (hr:r < base):n=D.now.length∧∀ W,w'.grownBy W (some r)->Cs W W.heap.size A D.now:=by
 refine ⟨?_,fun W hg=>?_⟩
 ·obtain ⟨A2,c2,e,-,-⟩:=h.now.now
  injection e
 ·obtain ⟨A2,c2,e,-,hc⟩:=(h.low hg hr).now.now
  injection e with e1
  subst e1
  exact hc
def OffB (vn vp:Value) (vs:List Value) (n B:Nat):Prop:=(∀ r,vn.ownBlock=some r->r≠B)∧(∀ r,vp.ownBlock=some r->r≠B)∧∀ k,k < n->∀ r,(vs.getD k undef).ownBlock=some r->r≠B
theorem KO.offLate {w:World} {base B:Nat} {vn vp:Value} {D:KV} {vs:List Value} (h:KO w base vn vp D vs) (hB:w.heap.size<=B):OffB vn vp vs D.past.length B :=
 ⟨fun r hr=>by have:=owns_lt h.now r hr;omega,fun r hr=>by have:=(h.past.base_lt r hr).2;omega,fun k hk r hr=>by have:=owns_lt (h.past.inner k hk) r hr;omega⟩
theorem KO.offEarly {w:World} {base B:Nat} {vn vp:Value} {D:KV} {vs:List Value} (h:KO w base vn vp D vs) (hB:B < base):OffB vn vp vs D.past.length B :=
 ⟨fun r hr=>by have:=owns_base h.now r hr;omega,fun r hr=>by have:=(h.past.base_lt r hr).1;omega,fun k hk r hr=>by have:=owns_base (h.past.inner k hk) r hr;omega⟩
theorem KO.keptOff {w w':World} {base B:Nat} {vn vp:Value} {D:KV} {vs:List Value} (h:KO w base vn vp D vs) (hg:w.grownBy w' (some B)) (ho:OffB vn vp vs D.past.length B):KO w' base vn vp D vs :=
 ⟨h.now.grownR' hg (fun r hr e=>by cases e;exact ho.1 _ hr rfl),h.past.kept hg (fun r hr e=>by cases e;exact ho.2.1 _ hr rfl) (fun k hk r hr e=>by cases e;exact ho.2.2 k hk _ hr rfl),h.apn,h.api⟩
theorem c_l20Desk (base r p n:Nat) (w:World) (h:Rd w base r p) (hp:p<=800000000) (hn1:1<=n) (hn2:n<=1000) :
  Calls Tryz.prog 46 #[.pointer (some ⟨r,0,none⟩),.int .i64 n] w fun e w'=>∃ vn vp D,e=.returned (.agg #[vn,vp])∧DskP w' w.heap.size vn vp D∧w.grownBy w' (some r)∧∃ p',p'<=p+200∧Rd w' base r p':=by
 have hrw:=h.2.1
 have hbr:=h.1
 obtain ⟨w0,hw0⟩:∃ w0,w.alloc (.cells #[.slice none 0 0,.slice none 0 0] 31)=w0:=⟨_,rfl⟩
 have hz0:w0.heap.size=w.heap.size+1:=by rw [<- hw0];simp
 have hb0:Below w.heap.size w w0:=by rw [<- hw0];exact (Below.refl _ w).alloc (Nat.le_refl _) _
 have bR:w0.heap[w.heap.size]?=some (.cells #[.slice none 0 0,.slice none 0 0] 31 (0,0)):=by rw [<- hw0];exact heap_alloc_new _ _
 have g0:w.grownBy w0 (some r):=by rw [<- hw0];exact World.grownBy_alloc _ _ _
 have r0:=h.keepB hb0 hrw (by omega)
 clear hb0 h
 go_enter Tryz.func46,Tryz.ntmps46
 go_wp2_with fail
 refine (c_l20Customers0 base r p _ r0 (by omega)).mono ?_
 rintro e w1 ⟨L,v,rfl,o1,hl1,hbd1,hg1,p1,hp1,hr1⟩
 obtain ⟨An,cn,rfl,hcn,-,hcs⟩:=o1.form
 have g1:=g0.trans hg1
 have b1:=blk1 hg1 (by omega) bR
 have hs1:=hg1.size
 clear hw0 r0 g0 hg1 bR o1
 go_wp2_with fail
 refine (c_sDeskNew L An cn w1 hcs (by omega)).mono ?_
 rintro e w2 ⟨vn,vp,vs,rfl,ko2,hb2⟩
 have hs2:=hb2.size
 have g2:=grown_thenB g1 (hb2.mono (by omega))
 have r2:=hr1.keepB hb2 (by omega) (by omega)
 have b2:=(hb2.block w.heap.size (by omega)).trans b1
 obtain ⟨N1,n1,N2,n2,rfl,rfl⟩:=ko2.slices
 obtain ⟨w3,hw3⟩:∃ w3,w2.alloc (.cells #[.slice N1 (newV L).now.length n1,.slice N2 (newV L).past.length n2] 31)=w3:=⟨_,rfl⟩
 have hz3:w3.heap.size=w2.heap.size+1:=by rw [<- hw3];simp
 have hb3:Below w2.heap.size w2 w3:=by rw [<- hw3];exact (Below.refl _ w2).alloc (Nat.le_refl _) _
 have bD:w3.heap[w2.heap.size]?=some (.cells #[.slice N1 (newV L).now.length n1,.slice N2 (newV L).past.length n2] 31 (0,0)):=by rw [<- hw3];exact heap_alloc_new _ _
 have g3:=grown_thenB g2 (hb3.mono (by omega))
 have r3:=r2.keepB hb3 (by omega) (by omega)
 have b3:=(hb3.block w.heap.size (by omega)).trans b2
 have ko3:=ko2.below hb3 (Nat.le_refl _)
 have off3:=ko2.offLate (Nat.le_refl w2.heap.size)
 have hok3:=deskOk_new L
 clear g2 r2 b2 ko2 g1 hr1 b1 hcs
 go_wp2_with fail
 clear hw3
 refine (c_pickI base r p1 6 _ r3 (by omega) (by omega) (by omega)).mono ?_
 rintro e w4 ⟨x,hx,rfl,hg4,hr4⟩
 have g4:=g3.trans hg4
 have b4:=blk1 hg4 (by omega) b3
 have d4:=blk1 hg4 (by omega) bD
 have ko4:=ko3.keptLow hg4 (by omega)
 have hs4:=hg4.size
 generalize newV L=D0 at *
 clear g3 r3 b3 bD ko3 hg4
 go_wp2_with fail
 go_loopw [7] (fun kv wr=>∃ (k q:Nat) (xn xp:Value) (D:KV) (xs:List Value),kv=.int .i64 (k:Int)∧k<=5∧q+10 * k<=p+91∧wr.heap[w2.heap.size]?=some (.cells #[xn,xp] 31 (0,0))∧wr.heap[w.heap.size]?=some (.cells #[.slice none 0 0,.slice none 0 0] 31 (0,0))∧KO wr w1.heap.size xn xp D xs∧OffB xn xp xs D.past.length w2.heap.size∧deskOk D=true∧w.grownBy wr (some r)∧Rd wr base r q)
  (fun kv _=>(intOf kv).toNat)
 case atStart=>exact ⟨x,p1+1,_,_,D0,vs,rfl,by omega,by omega,d4,b4,ko4,off3,hok3,g4,hr4⟩
 case round =>
  clear d4 b4 ko4 g4 hr4 hok3 off3
  obtain ⟨k,q,xn,xp,D,xs,rfl,hk,hq,bD,bR,ko,hoff,hok,gr,rd⟩:=hrel
  have hsr:=gr.size
  have hDl:=(Array.getElem?_eq_some_iff.1 bD).1
  have hsm:=small_ok hok
  have hlen:=cOk_len (deskOk_parts hok).2.1
  have hbdn:=bdX_ok (deskOk_parts hok).2.1
  obtain ⟨X1,x1,X2,x2,rfl,rfl⟩:=ko.slices
  by_cases hk0:0 < k
  ·have HC:=Lib.hid (fun (W:World) (hg:wr.grownBy W (some r))=>show W.cell? ⟨w2.heap.size,0,none⟩=some (.slice X1 D.now.length x1)∧W.cell? ⟨w2.heap.size,1,none⟩=some (.slice X2 D.past.length x2) from ⟨cell_of_row _ w2.heap.size 0 _ _ _ (blk1 hg (by omega) bD),cell_of_row _ w2.heap.size 1 _ _ _ (blk1 hg (by omega) bD)⟩)
   have HK:=Lib.hid (fun (W:World) (hg:wr.grownBy W (some r))=>ko.keptLow hg (show r < w1.heap.size by omega))
   have HD:=Lib.hid (fun (W:World) (hg:wr.grownBy W (some r)) (dk da db:Int)=>show Calls Tryz.prog 64 #[.agg #[.slice X1 D.now.length x1,.slice X2 D.past.length x2],.agg #[.int .i64 dk,.int .i64 da,.int .i64 db]] W (DoP D ⟨dk,da,db⟩ W) from c_sDeskDo D _ _ dk da db W ((ko.keptLow hg (show r < w1.heap.size by omega)).ks) hsm)
   have hgd:wr.grownBy wr.drew (some r):=grown_drewN (n:=1) (World.grownBy.refl _ _)
   have hgda:wr.grownBy (wr.drew.alloc (.cells #[.slice none 0 0,.slice none 0 0] 31)) (some r):=hgd.trans (World.grownBy_alloc _ _ _)
   have HL:=Lib.hid (fun (W:World) (hg:wr.grownBy W (some r)) (hr:Rd W base r q)=>show Calls Tryz.prog 102 #[.pointer (some ⟨r,0,none⟩),.slice X1 D.now.length x1] W _ from c_l20Deed base r q D.now X1 x1 W hr (by omega) (by omega) hbdn (fun W2 hg2=>by
    obtain ⟨A,c,e,_,hA⟩:=((ko.keptLow (hg.trans hg2) (show r < w1.heap.size by omega)).ks).now
    injection e with e1 e2 e3
    subst e1
    exact hA))
   have c0:=(HC.out wr (World.grownBy.refl _ _)).1
   have c1:=(HC.out wr (World.grownBy.refl _ _)).2
   have rdd:Rd wr.drew base r q:=rd.keepB (B:=wr.heap.size) (Below.refl _ wr).drew (by omega) (by omega)
   have rdda:Rd (wr.drew.alloc (.cells #[.slice none 0 0,.slice none 0 0] 31)) base r q:=rd.keepB (B:=wr.heap.size) ((Below.refl _ wr).drew.alloc (Nat.le_refl _) _) (by omega) (by omega)
   have bA0:(wr.drew.alloc (.cells #[.slice none 0 0,.slice none 0 0] 31)).heap[wr.heap.size]?=some (.cells #[.slice none 0 0,.slice none 0 0] 31 (0,0)):=heap_alloc_new wr.drew _
   have hgdb:wr.grownBy (wr.alloc (.cells #[.slice none 0 0,.slice none 0 0] 31)).drew (some r):=grown_drewN (n:=1) (World.grownBy_alloc _ _ _)
   have rddb:Rd (wr.alloc (.cells #[.slice none 0 0,.slice none 0 0] 31)).drew base r q:=rd.keepB (B:=wr.heap.size) (((Below.refl _ wr).alloc (Nat.le_refl _) _).drew) (by omega) (by omega)
   have bB0:(wr.alloc (.cells #[.slice none 0 0,.slice none 0 0] 31)).drew.heap[wr.heap.size]?=some (.cells #[.slice none 0 0,.slice none 0 0] 31 (0,0)):=heap_alloc_new wr _
   clear ko hsm
   go_wp2_with fail
   go_region_held3 (fun W=>W.cell? ⟨w2.heap.size,0,none⟩=some (.slice X1 D.now.length x1)∧W.cell? ⟨w2.heap.size,1,none⟩=some (.slice X2 D.past.length x2))
    (first
      | go_keep
      | exact HC.out _ hgX
      | exact HC.out _ (gx6.trans (World.grownBy_alloc _ _ _))
      | exact HC.out _ gx6
      | exact HC.out _ (gx5.trans (World.grownBy_alloc _ _ _))
      | exact HC.out _ gx5
      | exact HC.out _ hgda
      | exact HC.out _ hgdb
      | exact HC.out _ hgd)
    (first
      | (go_at_call 102;(with_reducible refine (HL.out wr.drew hgd rdd).mono ?_);rintro e w5 ⟨dk,da,db,rfl,hdk,hda,hdb,hg5,q5,hq5,hr5⟩;have gx5:wr.grownBy w5 (some r):=World.grownBy.trans hgd hg5)
      | (go_at_call 102;(with_reducible refine (HL.out (wr.drew.alloc (.cells #[.slice none 0 0,.slice none 0 0] 31)) hgda rdda).mono ?_);rintro e w5 ⟨dk,da,db,rfl,hdk,hda,hdb,hg5,q5,hq5,hr5⟩;have gx5:wr.grownBy w5 (some r):=World.grownBy.trans hgda hg5;have hz5:wr.heap.size < w5.heap.size:=Nat.lt_of_lt_of_le (by simp) (World.grownBy.size hg5);have bx5:=blk1 hg5 (show r≠wr.heap.size by omega) bA0)
      | (go_at_call 64;(with_reducible refine (HD.out w5 gx5 dk da db).mono ?_);rintro e w6 ⟨yn,yp,ys,rfl,o6,hb6⟩;obtain ⟨A5,c5,A6,c6,rfl,rfl⟩:=o6.slices;have gx6:wr.grownBy w6 (some r):=grown_thenB gx5 (hb6.mono (World.grownBy.size gx5));have hz6:=hb6.size;(try simp only [World.size_alloc] at hz6);have rx6:Rd w6 base r q5:=(hr5.keepB hb6 (by have:=World.grownBy.size gx5;omega) (by have:=World.grownBy.size gx5;omega));have bx:=(hb6.block wr.heap.size (by first | omega | (simp;done) | (simp;omega))).trans (bx5);have x0':=cell_of_row _ wr.heap.size 0 _ _ _ bx;have x1':=cell_of_row _ wr.heap.size 1 _ _ _ bx;have z0:w6.frozen? ⟨wr.heap.size,0,none⟩=false:=unfrozen_of bx;have z1:w6.frozen? ⟨wr.heap.size,1,none⟩=false:=unfrozen_of bx;obtain ⟨Wa,hWa⟩:∃ Wa,w6.setCell ⟨wr.heap.size,0,none⟩ (.slice A5 (deskDo D ⟨dk,da,db⟩).1.now.length c5)=Wa:=⟨_,rfl⟩;obtain ⟨WX,hWX⟩:∃ WX,Wa.setCell ⟨wr.heap.size,1,none⟩ (.slice A6 (deskDo D ⟨dk,da,db⟩).1.past.length c6)=WX:=⟨_,rfl⟩;have bxa:Wa.heap[wr.heap.size]?=some (.cells #[(.slice A5 (deskDo D ⟨dk,da,db⟩).1.now.length c5),.slice none 0 0] 31 (0,0)):=(by rw [<- hWa];exact set2a _ bx);have x2':=cell_of_row _ wr.heap.size 1 _ _ _ bxa;have z2:Wa.frozen? ⟨wr.heap.size,1,none⟩=false:=unfrozen_of bxa;have bX:∃ Bx,Bx=wr.heap.size∧WX.heap[Bx]?=some (.cells #[(.slice A5 (deskDo D ⟨dk,da,db⟩).1.now.length c5),(.slice A6 (deskDo D ⟨dk,da,db⟩).1.past.length c6)] 31 (0,0)):=⟨_,rfl,by rw [<- hWX];exact set2b _ bxa⟩;have hgZ:w6.grownBy WX (some wr.heap.size):=(by rw [<- hWX,<- hWa];exact W2_grown _ _ _ _);have hbX:Below wr.heap.size w6 WX:=(Below.refl _ w6).grown hgZ (by omega) (fun k e=>by cases e;exact Nat.le_refl _);have hgX:wr.grownBy WX (some r):=grown_thenB gx6 (hbX.mono (by have:=World.grownBy.size gx5;omega));have oX:KO WX wr.heap.size (.slice A5 (deskDo D ⟨dk,da,db⟩).1.now.length c5) (.slice A6 (deskDo D ⟨dk,da,db⟩).1.past.length c6) (deskDo D ⟨dk,da,db⟩).1 ys:=(o6.keptLow hgZ (by first | omega | (simp;done) | (simp;omega))).mono (by have:=World.grownBy.size gx5;first | omega | (simp;done) | (simp;omega));have rX:=rx6.keepB hbX (by have:=World.grownBy.size gx5;omega) (by have:=World.grownBy.size gx5;omega))
      | (go_at_call 64;(with_reducible refine (HD.out w5 gx5 dk da db).mono ?_);rintro e w6 ⟨yn,yp,ys,rfl,o6,hb6⟩;obtain ⟨A5,c5,A6,c6,rfl,rfl⟩:=o6.slices;have gx6:wr.grownBy w6 (some r):=grown_thenB gx5 (hb6.mono (World.grownBy.size gx5));have hz6:=hb6.size;(try simp only [World.size_alloc] at hz6);have rx6:Rd w6 base r q5:=(hr5.keepB hb6 (by have:=World.grownBy.size gx5;omega) (by have:=World.grownBy.size gx5;omega));obtain ⟨WX,hWX⟩:∃ WX,w6.alloc (.cells #[(.slice A5 (deskDo D ⟨dk,da,db⟩).1.now.length c5),(.slice A6 (deskDo D ⟨dk,da,db⟩).1.past.length c6)] 31)=WX:=⟨_,rfl⟩;have hbX:Below w6.heap.size w6 WX:=(by rw [<- hWX];exact (Below.refl _ w6).alloc (Nat.le_refl _) _);have bX:∃ Bx,Bx=w6.heap.size∧WX.heap[Bx]?=some (.cells #[(.slice A5 (deskDo D ⟨dk,da,db⟩).1.now.length c5),(.slice A6 (deskDo D ⟨dk,da,db⟩).1.past.length c6)] 31 (0,0)):=⟨_,rfl,by rw [<- hWX];exact heap_alloc_new _ _⟩;have hgX:wr.grownBy WX (some r):=grown_thenB gx6 (hbX.mono (World.grownBy.size gx6));have oX:KO WX wr.heap.size (.slice A5 (deskDo D ⟨dk,da,db⟩).1.now.length c5) (.slice A6 (deskDo D ⟨dk,da,db⟩).1.past.length c6) (deskDo D ⟨dk,da,db⟩).1 ys:=(o6.below hbX (Nat.le_refl _)).mono (World.grownBy.size gx5);have rX:=rx6.keepB hbX (by have:=rx6.2.1;omega) (by have:=rx6.2.1;have:=rx6.1;omega))
      | (go_at_call 64;(with_reducible refine (HD.out (w5.alloc (.cells #[.slice none 0 0,.slice none 0 0] 31)) (gx5.trans (World.grownBy_alloc _ _ _)) dk da db).mono ?_);rintro e w6 ⟨yn,yp,ys,rfl,o6,hb6⟩;obtain ⟨A5,c5,A6,c6,rfl,rfl⟩:=o6.slices;have gx6:wr.grownBy w6 (some r):=grown_thenB (gx5.trans (World.grownBy_alloc _ _ _)) (hb6.mono (World.grownBy.size (gx5.trans (World.grownBy_alloc _ _ _))));have hz6:=hb6.size;(try simp only [World.size_alloc] at hz6);have rx6:Rd w6 base r q5:=((hr5.keepB ((Below.refl _ w5).alloc (Nat.le_refl _) (.cells #[.slice none 0 0,.slice none 0 0] 31)) (by have:=World.grownBy.size gx5;omega) (by have:=World.grownBy.size gx5;omega)).keepB hb6 (by have:=World.grownBy.size gx5;first | omega | (simp;done) | (simp;omega)) (by have:=World.grownBy.size gx5;first | omega | (simp;done) | (simp;omega)));have bx:=(hb6.block w5.heap.size (by first | omega | (simp;done) | (simp;omega))).trans (heap_alloc_new w5 _);have x0':=cell_of_row _ w5.heap.size 0 _ _ _ bx;have x1':=cell_of_row _ w5.heap.size 1 _ _ _ bx;have z0:w6.frozen? ⟨w5.heap.size,0,none⟩=false:=unfrozen_of bx;have z1:w6.frozen? ⟨w5.heap.size,1,none⟩=false:=unfrozen_of bx;obtain ⟨Wa,hWa⟩:∃ Wa,w6.setCell ⟨w5.heap.size,0,none⟩ (.slice A5 (deskDo D ⟨dk,da,db⟩).1.now.length c5)=Wa:=⟨_,rfl⟩;obtain ⟨WX,hWX⟩:∃ WX,Wa.setCell ⟨w5.heap.size,1,none⟩ (.slice A6 (deskDo D ⟨dk,da,db⟩).1.past.length c6)=WX:=⟨_,rfl⟩;have bxa:Wa.heap[w5.heap.size]?=some (.cells #[(.slice A5 (deskDo D ⟨dk,da,db⟩).1.now.length c5),.slice none 0 0] 31 (0,0)):=(by rw [<- hWa];exact set2a _ bx);have x2':=cell_of_row _ w5.heap.size 1 _ _ _ bxa;have z2:Wa.frozen? ⟨w5.heap.size,1,none⟩=false:=unfrozen_of bxa;have bX:∃ Bx,Bx=w5.heap.size∧WX.heap[Bx]?=some (.cells #[(.slice A5 (deskDo D ⟨dk,da,db⟩).1.now.length c5),(.slice A6 (deskDo D ⟨dk,da,db⟩).1.past.length c6)] 31 (0,0)):=⟨_,rfl,by rw [<- hWX];exact set2b _ bxa⟩;have hgZ:w6.grownBy WX (some w5.heap.size):=(by rw [<- hWX,<- hWa];exact W2_grown _ _ _ _);have hbX:Below w5.heap.size w6 WX:=(Below.refl _ w6).grown hgZ (by omega) (fun k e=>by cases e;exact Nat.le_refl _);have hgX:wr.grownBy WX (some r):=grown_thenB gx6 (hbX.mono (by have:=World.grownBy.size gx5;omega));have oX:KO WX wr.heap.size (.slice A5 (deskDo D ⟨dk,da,db⟩).1.now.length c5) (.slice A6 (deskDo D ⟨dk,da,db⟩).1.past.length c6) (deskDo D ⟨dk,da,db⟩).1 ys:=(o6.keptLow hgZ (by first | omega | (simp;done) | (simp;omega))).mono (by have:=World.grownBy.size gx5;first | omega | (simp;done) | (simp;omega));have rX:=rx6.keepB hbX (by have:=World.grownBy.size gx5;omega) (by have:=World.grownBy.size gx5;omega))
      | (go_at_call 102;(with_reducible refine (HL.out (wr.alloc (.cells #[.slice none 0 0,.slice none 0 0] 31)).drew hgdb rddb).mono ?_);rintro e w5 ⟨dk,da,db,rfl,hdk,hda,hdb,hg5,q5,hq5,hr5⟩;have gx5:wr.grownBy w5 (some r):=World.grownBy.trans hgdb hg5;have hz5:wr.heap.size < w5.heap.size:=Nat.lt_of_lt_of_le (by simp) (World.grownBy.size hg5);have bx5:=blk1 hg5 (show r≠wr.heap.size by omega) bB0))
   all_goals
    obtain ⟨Bx,hBx,bX⟩:=bX
    try rw [hWX]
    have bR7:=blk1 hgX (show r≠w.heap.size by omega) bR
    have bD7:=blk1 hgX (show r≠w2.heap.size by omega) bD
    have ko7:=HK.out _ hgX
    have g7:=gr.trans hgX
    have hs7:=g7.size
    have hok7:=deskDo_ok (d:=⟨dk,da,db⟩) hok
    have hlX:=(World.grownBy.size hgX)
    subst hBx
    have hWX0:=hWX
    clear hWX
    have v0:=cell_of_row _ _ 0 _ _ _ bX
    have v1:=cell_of_row _ _ 1 _ _ _ bX
    have RX:=Lib.hid rX
    cases hdo:(deskDo D ⟨dk,da,db⟩).2 with
    | false =>
     clear bX oX rX hWX0 hbX HD HL HC
     go_wp2_with fail
     go_roundw
     case rel=>exact ⟨k - 1,q5,_,_,D,xs,by go_num,by omega,by omega,bD7,bR7,ko7,hoff,hok,g7,RX.out⟩
     case measure=>simp [intOf];omega
    | true =>
     obtain ⟨Wb,hWb⟩:∃ Wb,WX.setCell ⟨w2.heap.size,0,none⟩ (.slice A5 (deskDo D ⟨dk,da,db⟩).1.now.length c5)=Wb:=⟨_,rfl⟩
     obtain ⟨WO,hWO⟩:∃ WO,Wb.setCell ⟨w2.heap.size,1,none⟩ (.slice A6 (deskDo D ⟨dk,da,db⟩).1.past.length c6)=WO:=⟨_,rfl⟩
     have bOb:Wb.heap[w2.heap.size]?=some (.cells #[(.slice A5 (deskDo D ⟨dk,da,db⟩).1.now.length c5),.slice X2 D.past.length x2] 31 (0,0)):=by rw [<- hWb];exact set2a _ bD7
     have t0:=cell_of_row _ w2.heap.size 0 _ _ _ bD7
     have t1:=cell_of_row _ w2.heap.size 1 _ _ _ bOb
     have s0:WX.frozen? ⟨w2.heap.size,0,none⟩=false:=unfrozen_of bD7
     have s1:Wb.frozen? ⟨w2.heap.size,1,none⟩=false:=unfrozen_of bOb
     have bO8:WO.heap[w2.heap.size]?=some (.cells #[(.slice A5 (deskDo D ⟨dk,da,db⟩).1.now.length c5),(.slice A6 (deskDo D ⟨dk,da,db⟩).1.past.length c6)] 31 (0,0)):=by rw [<- hWO];exact set2b _ bOb
     have hgO:WX.grownBy WO (some w2.heap.size):=by rw [<- hWO,<- hWb];exact W2_grown _ _ _ _
     have hbO:Below w2.heap.size WX WO:=(Below.refl _ WX).grown hgO (by omega) (fun k e=>by cases e;exact Nat.le_refl _)
     have HK9:=Lib.hid ((oX.keptLow hgO hDl).mono (show w1.heap.size<=wr.heap.size by omega))
     have HOF:=Lib.hid (oX.offEarly hDl)
     have HK8:=Lib.hid bO8
     have HR8:=Lib.hid ((hbO.block w.heap.size (by omega)).trans bR7)
     have HG8:=Lib.hid (grown_thenB g7 (hbO.mono (by omega)))
     have HRd:=Lib.hid (RX.out.keepB hbO (by omega) (by omega))
     clear bX oX rX bD7 bOb bO8 hgO ko7 hWX0 HD HL HC hbX
     go_wp2_with fail
     go_roundw
     case rel=>exact ⟨k - 1,q5,_,_,_,ys,by go_num,by omega,by omega,HK8.out,HR8.out,HK9.out,HOF.out,hok7,HG8.out,HRd.out⟩
     case measure=>simp [intOf];omega
  ·have hkz:k=0:=by omega
   subst hkz
   clear hk hk0
   go_wp2_with fail
   refine (c_odd base r q n _ rd (by omega) hn1 hn2).mono ?_
   rintro e w5 ⟨o,rfl,hg5,hr5⟩
   have g5:=gr.trans hg5
   have bD5:=blk1 hg5 (show r≠w2.heap.size by omega) bD
   have bR5:=blk1 hg5 (show r≠w.heap.size by omega) bR
   have ko5:=ko.keptLow hg5 (show r < w1.heap.size by omega)
   have hs5:=hg5.size
   clear gr bD bR ko hg5 rd
   cases o with
   | false =>
    have bDx:=bD5
    have bRx:=bR5
    have kox:=ko5
    have gx:=g5
    have rx:=hr5
    clear bD5 bR5 ko5 g5 hr5
    have t0:=cell_of_row _ w2.heap.size 0 _ _ _ bDx
    have t1:=cell_of_row _ w2.heap.size 1 _ _ _ bDx
    obtain ⟨r0,r1,f0,f1⟩:=two_at bRx
    obtain ⟨Wb,hWb⟩:∃ Wb,w5.setCell ⟨w.heap.size,0,none⟩ (.slice X1 D.now.length x1)=Wb:=⟨_,rfl⟩
    obtain ⟨WO,hWO⟩:∃ WO,Wb.setCell ⟨w.heap.size,1,none⟩ (.slice X2 D.past.length x2)=WO:=⟨_,rfl⟩
    have e3:Wb.heap[w.heap.size]?=some (.cells #[(.slice X1 D.now.length x1),.slice none 0 0] 31 (0,0)):=by rw [<- hWb];exact set2a _ bRx
    have r2:=cell_of_row _ w.heap.size 1 _ _ _ e3
    have f2:Wb.frozen? ⟨w.heap.size,1,none⟩=false:=unfrozen_of e3
    have HF:Hid (WO.heap[w.heap.size]?=some (.cells #[(.slice X1 D.now.length x1),(.slice X2 D.past.length x2)] 31 (0,0))):=by rw [<- hWO];exact Lib.hid (set2b _ e3)
    have hgO:w5.grownBy WO (some w.heap.size):=by rw [<- hWO,<- hWb];exact W2_grown _ _ _ _
    have hbO:Below w.heap.size w5 WO:=(Below.refl _ w5).grown hgO (by omega) (fun k e=>by cases e;exact Nat.le_refl _)
    have HKO:=Lib.hid (kox.keptLow hgO (by omega))
    have HG:=Lib.hid (grown_thenB gx hbO)
    have HR:=Lib.hid (rx.keepB hbO (by omega) (by omega))
    clear bDx bRx kox gx rx e3 hgO hbO
    go_wp2_with fail
    have k0:=cell_of_row _ w.heap.size 0 _ _ _ HF.out
    have k1:=cell_of_row _ w.heap.size 1 _ _ _ HF.out
    refine bodyPost_ret (v:=.agg #[(.slice X1 D.now.length x1),(.slice X2 D.past.length x2)]) (by simp [results,Tryz.f46,go_sem,k0,k1]) rfl ?_
    exact ⟨_,_,D,rfl,DskP.ofKO (HKO.out.mono (by omega)) hsm hbdn (by omega),HG.out,_,by omega,HR.out⟩
   | true =>
    go_wp2_with fail
    refine (c_pickI base r (q+1) 2 _ hr5 (by omega) (by omega) (by omega)).mono ?_
    rintro e w6 ⟨y,hy,rfl,hg6,hr6⟩
    have g6:=g5.trans hg6
    have bD6:=blk1 hg6 (show r≠w2.heap.size by omega) bD5
    have bR6:=blk1 hg6 (show r≠w.heap.size by omega) bR5
    have ko6:=ko5.keptLow hg6 (show r < w1.heap.size by omega)
    have hs6:=hg6.size
    clear g5 bD5 bR5 ko5 hg6 hr5
    have hpl:∀ rr,(Value.slice X2 D.past.length x2).ownBlock=some rr->rr < w6.heap.size:=fun rr hrr=>(ko6.past.base_lt rr hrr).2
    have hil:∀ k,k < D.past.length->∀ rr,(xs.getD k undef).ownBlock=some rr->rr < w6.heap.size:=fun k hk rr hrr=>owns_lt (ko6.past.inner k hk) rr hrr
    have hnl:∀ rr,(Value.slice X1 D.now.length x1).ownBlock=some rr->rr < w6.heap.size:=fun rr hrr=>owns_lt ko6.now rr hrr
    rcases (show y=0∨y=1 by omega) with rfl | rfl
    ·obtain ⟨w7,hw7⟩:∃ w7,w6.alloc (.cells #[.int .i64 0,.int .i64 10] 100)=w7:=⟨_,rfl⟩
     have hb7:Below w6.heap.size w6 w7:=by rw [<- hw7];exact (Below.refl _ w6).alloc (Nat.le_refl _) _
     have lit:CO w7 w1.heap.size (Value.slice (some ⟨w6.heap.size,0,none⟩) 1 1) [(0,10)]:=by rw [<- hw7];exact CO.lit _ _ 1 (by omega) (by simp [maxLen]) rfl rfl
     have hs7:=hb7.size
     have ko7:KO w7 w1.heap.size (Value.slice (some ⟨w6.heap.size,0,none⟩) 1 1) (.slice X2 D.past.length x2) ⟨[(0,10)],D.past⟩ xs:=⟨lit,ko6.past.below hb7 (Nat.le_refl _),fun rr hrr e=>by
      have:=hpl rr e
      simp only [Value.ownBlock,Option.some.injEq] at hrr;omega,fun k hk rr hrr e=>by
      have:=hil k hk rr hrr
      simp only [Value.ownBlock,Option.some.injEq] at e;omega⟩
     have off7:OffB (Value.slice (some ⟨w6.heap.size,0,none⟩) 1 1) (.slice X2 D.past.length x2) xs D.past.length w2.heap.size:=⟨fun rr hrr=>by simp only [Value.ownBlock,Option.some.injEq] at hrr;omega,hoff.2⟩
     have bD7:=(hb7.block w2.heap.size (by omega)).trans bD6
     have bR7:=(hb7.block w.heap.size (by omega)).trans bR6
     have t0':=cell_of_row _ w2.heap.size 0 _ _ _ bD7
     have f0':w7.frozen? ⟨w2.heap.size,0,none⟩=false:=unfrozen_of bD7
     obtain ⟨w8,hw8⟩:∃ w8,w7.setCell ⟨w2.heap.size,0,none⟩ (Value.slice (some ⟨w6.heap.size,0,none⟩) 1 1)=w8:=⟨_,rfl⟩
     have hg8:w7.grownBy w8 (some w2.heap.size):=by rw [<- hw8];exact grown_set1 _ _ _ _
     have hb8:Below w2.heap.size w7 w8:=(Below.refl _ w7).grown hg8 (by omega) (fun k e=>by cases e;exact Nat.le_refl _)
     have hs8:=hb8.size
     have bDx:w8.heap[w2.heap.size]?=some (.cells #[(Value.slice (some ⟨w6.heap.size,0,none⟩) 1 1),(.slice X2 D.past.length x2)] 31 (0,0)):=by rw [<- hw8];exact set2a _ bD7
     have bRx:=(hb8.block w.heap.size (by omega)).trans bR7
     have kox:=ko7.keptOff hg8 off7
     have gx:=grown_thenB (grown_thenB g6 (hb7.mono (by omega))) (hb8.mono (by omega))
     have rx:=(hr6.keepB hb7 (by omega) (by omega)).keepB hb8 (by omega) (by omega)
     have sm8:SmallK ⟨[(0,10)],D.past⟩:=⟨by simp,hsm.2⟩
     have bd8:bdX [(0,10)]:=fun k hk=>by
      obtain rfl:k=0:=by simp at hk;omega
      simp [X]
     clear hb7 lit ko7 off7 bD7 bR7 hg8 hb8 g6 hr6 ko6 bD6 bR6
     have t0:=cell_of_row _ w2.heap.size 0 _ _ _ bDx
     have t1:=cell_of_row _ w2.heap.size 1 _ _ _ bDx
     obtain ⟨r0,r1,f0,f1⟩:=two_at bRx
     obtain ⟨Wb,hWb⟩:∃ Wb,w8.setCell ⟨w.heap.size,0,none⟩ (Value.slice (some ⟨w6.heap.size,0,none⟩) 1 1)=Wb:=⟨_,rfl⟩
     obtain ⟨WO,hWO⟩:∃ WO,Wb.setCell ⟨w.heap.size,1,none⟩ (.slice X2 D.past.length x2)=WO:=⟨_,rfl⟩
     have e3:Wb.heap[w.heap.size]?=some (.cells #[(Value.slice (some ⟨w6.heap.size,0,none⟩) 1 1),.slice none 0 0] 31 (0,0)):=by rw [<- hWb];exact set2a _ bRx
     have r2:=cell_of_row _ w.heap.size 1 _ _ _ e3
     have f2:Wb.frozen? ⟨w.heap.size,1,none⟩=false:=unfrozen_of e3
     have HF:Hid (WO.heap[w.heap.size]?=some (.cells #[(Value.slice (some ⟨w6.heap.size,0,none⟩) 1 1),(.slice X2 D.past.length x2)] 31 (0,0))):=by rw [<- hWO];exact Lib.hid (set2b _ e3)
     have hgO:w8.grownBy WO (some w.heap.size):=by rw [<- hWO,<- hWb];exact W2_grown _ _ _ _
     have hbO:Below w.heap.size w8 WO:=(Below.refl _ w8).grown hgO (by omega) (fun k e=>by cases e;exact Nat.le_refl _)
     have HKO:=Lib.hid (kox.keptLow hgO (by omega))
     have HG:=Lib.hid (grown_thenB gx hbO)
     have HR:=Lib.hid (rx.keepB hbO (by omega) (by omega))
     clear bDx bRx kox gx rx e3 hgO hbO
     go_wp2_with fail
     have k0:=cell_of_row _ w.heap.size 0 _ _ _ HF.out
     have k1:=cell_of_row _ w.heap.size 1 _ _ _ HF.out
     refine bodyPost_ret (v:=.agg #[(Value.slice (some ⟨w6.heap.size,0,none⟩) 1 1),(.slice X2 D.past.length x2)]) (by simp [results,Tryz.f46,go_sem,k0,k1]) rfl ?_
     exact ⟨_,_,⟨[(0,10)],D.past⟩,rfl,DskP.ofKO (HKO.out.mono (by omega)) sm8 bd8 (by simp),HG.out,_,by omega,HR.out⟩
    ·obtain ⟨w7,hw7⟩:∃ w7,w6.alloc (.cells #[.int .i64 0,.int .i64 0] 100)=w7:=⟨_,rfl⟩
     have hb7:Below w6.heap.size w6 w7:=by rw [<- hw7];exact (Below.refl _ w6).alloc (Nat.le_refl _) _
     have hz7:w7.heap.size=w6.heap.size+1:=by rw [<- hw7];simp
     have lit:CO w7 w1.heap.size (Value.slice (some ⟨w6.heap.size,0,none⟩) 1 1) [(0,0)]:=by rw [<- hw7];exact CO.lit _ _ 1 (by omega) (by simp [maxLen]) rfl rfl
     obtain ⟨w8,hw8⟩:∃ w8,w7.alloc (.cells #[(Value.slice (some ⟨w6.heap.size,0,none⟩) 1 1)] 28)=w8:=⟨_,rfl⟩
     have hz8:w8.heap.size=w6.heap.size+2:=by rw [<- hw8];simp [hz7]
     have hb8:Below w7.heap.size w7 w8:=by rw [<- hw8];exact (Below.refl _ w7).alloc (Nat.le_refl _) _
     have bS:w8.heap[w6.heap.size+1]?=some (.cells #[(Value.slice (some ⟨w6.heap.size,0,none⟩) 1 1)] 28 (0,0)):=by rw [<- hz7,<- hw8];exact heap_alloc_new _ _
     have lit8:=lit.below hb8 (Nat.le_refl _)
     have hb68:Below w6.heap.size w6 w8:=hb7.trans (hb8.mono (by omega))
     have bD8:=(hb68.block w2.heap.size (by omega)).trans bD6
     have bR8:=(hb68.block w.heap.size (by omega)).trans bR6
     have t1':=cell_of_row _ w2.heap.size 1 _ _ _ bD6
     have P6:=Lib.hid ko6
     clear hb7 hb8
     have sm8:SmallK ⟨D.now,D.past++[[(0,0)]]⟩:=⟨hsm.1,by have:=hsm.2.1;simp only [List.length_append,List.length_singleton];have:=(deskOk_parts hok).2.2;omega,fun k hk=>by
      simp only [List.length_append,List.length_singleton] at hk
      rw [LL_snoc rfl hk]
      by_cases e:k=D.past.length
      ·rw [if_pos e];simp
      ·rw [if_neg e];exact hsm.2.2 k (by omega)⟩
     have hdl:=hsm.2.1
     go_wp2_with (
      refine app_PL ?_ (.tmp 43) (.tmp 46) ?_ w1.heap.size (.slice X2 D.past.length x2) D.past xs w6 (Value.slice (some ⟨w6.heap.size,0,none⟩) 1 1) [(0,0)] (w6.heap.size+1) ?_ P6.out.past hb68 lit8 ?_ ?_ ?_ bS ?_ ?_ ?_
      ·rfl
      ·rfl
      ·rfl
      ·intro rr hrr
       simp only [Value.ownBlock,Option.some.injEq] at hrr
       omega
      ·rfl
      ·rfl
      ·omega
      ·omega
      intro g9 o9 c9 w9 pl9 hg9 hb9 hv9
      have bD9:=(hg9.block w2.heap.size (by omega) (fun e=>hoff.2.1 _ e.symm rfl)).trans bD8
      have bR9:=(hb9.block w.heap.size (by omega)).trans bR8
      have hs9:=hb9.size
      have hg89:=hg9.size
      have t9':=cell_of_row _ w2.heap.size 1 _ _ _ bD9
      have f9':w9.frozen? ⟨w2.heap.size,1,none⟩=false:=unfrozen_of bD9
      have hv9':∀ rr,(Value.slice (some ⟨g9,o9,none⟩) (D.past.length+1) c9).ownBlock=some rr->(Value.slice X2 D.past.length x2).ownBlock=some rr∨w6.heap.size+2<=rr:=by
       intro rr hrr
       simp only [Value.ownBlock,Option.some.injEq] at hrr
       subst hrr
       rcases hv9 with h1 | h1
       ·exact .inl h1
       ·exact .inr (by omega)
      have hvs:=pl9.len
      have hvs2:xs.length=D.past.length:=by simpa using hvs
      have gd:=fun k (hk:k < D.past.length+1)=>getD_snoc (x:=(Value.slice (some ⟨w6.heap.size,0,none⟩) 1 1)) hvs2 hk
      have ko9:KO w9 w1.heap.size (.slice X1 D.now.length x1) (.slice (some ⟨g9,o9,none⟩) (D.past.length+1) c9) ⟨D.now,D.past++[[(0,0)]]⟩ (xs++[(Value.slice (some ⟨w6.heap.size,0,none⟩) 1 1)]):=⟨(P6.out.now.below hb68 (Nat.le_refl _)).grownR' hg9 (fun rr hrr e=>P6.out.apn rr hrr e),pl9,fun rr hrr e=>by
        rcases hv9' rr e with h1 | h1
        ·exact P6.out.apn rr hrr h1
        ·have:=hnl rr hrr;omega,fun k hk rr hrr e=>by
        simp only [List.length_append,List.length_singleton] at hk
        rw [gd k hk] at hrr
        by_cases ek:k=D.past.length
        ·rw [if_pos ek] at hrr
         have:=hnl rr e
         simp only [Value.ownBlock,Option.some.injEq] at hrr;omega
        ·rw [if_neg ek] at hrr
         exact P6.out.api k (by omega) rr hrr e⟩
      have off9:OffB (.slice X1 D.now.length x1) (.slice (some ⟨g9,o9,none⟩) (D.past.length+1) c9) (xs++[(Value.slice (some ⟨w6.heap.size,0,none⟩) 1 1)]) (D.past++[[(0,0)]]).length w2.heap.size:=⟨hoff.1,fun rr hrr=>by
        rcases hv9' rr hrr with h1 | h1
        ·exact hoff.2.1 rr h1
        ·omega,fun k hk rr hrr=>by
        simp only [List.length_append,List.length_singleton] at hk
        rw [gd k hk] at hrr
        by_cases ek:k=D.past.length
        ·rw [if_pos ek] at hrr
         simp only [Value.ownBlock,Option.some.injEq] at hrr;omega
        ·rw [if_neg ek] at hrr
         exact hoff.2.2 k (by omega) rr hrr⟩
      obtain ⟨wA,hwA⟩:∃ wA,w9.setCell ⟨w2.heap.size,1,none⟩ (.slice (some ⟨g9,o9,none⟩) (D.past.length+1) c9)=wA:=⟨_,rfl⟩
      have hgA:w9.grownBy wA (some w2.heap.size):=by rw [<- hwA];exact grown_set1 _ _ _ _
      have hbA:Below w2.heap.size w9 wA:=(Below.refl _ w9).grown hgA (by omega) (fun k e=>by cases e;exact Nat.le_refl _)
      have hsA:=hbA.size
      have bDx:wA.heap[w2.heap.size]?=some (.cells #[(.slice X1 D.now.length x1),(.slice (some ⟨g9,o9,none⟩) (D.past.length+1) c9)] 31 (0,0)):=by rw [<- hwA];exact set2b _ bD9
      have bRx:=(hbA.block w.heap.size (by omega)).trans bR9
      have kox:=ko9.keptOff hgA off9
      have hb9':Below w.heap.size w8 w9:=hb9.mono (by omega)
      have gx:=grown_thenB (grown_thenB (grown_thenB g6 (hb68.mono (by omega))) hb9') (hbA.mono (by omega))
      have rx:=((hr6.keepB hb68 (by omega) (by omega)).keepB hb9 (by omega) (by omega)).keepB hbA (by omega) (by omega)
      have t0:=cell_of_row _ w2.heap.size 0 _ _ _ bDx
      have t1:=cell_of_row _ w2.heap.size 1 _ _ _ bDx
      obtain ⟨r0,r1,f0,f1⟩:=two_at bRx
      obtain ⟨Wb,hWb⟩:∃ Wb,wA.setCell ⟨w.heap.size,0,none⟩ (.slice X1 D.now.length x1)=Wb:=⟨_,rfl⟩
      obtain ⟨WO,hWO⟩:∃ WO,Wb.setCell ⟨w.heap.size,1,none⟩ (.slice (some ⟨g9,o9,none⟩) (D.past.length+1) c9)=WO:=⟨_,rfl⟩
      have e3:Wb.heap[w.heap.size]?=some (.cells #[(.slice X1 D.now.length x1),.slice none 0 0] 31 (0,0)):=by rw [<- hWb];exact set2a _ bRx
      have r2:=cell_of_row _ w.heap.size 1 _ _ _ e3
      have f2:Wb.frozen? ⟨w.heap.size,1,none⟩=false:=unfrozen_of e3
      have HF:Hid (WO.heap[w.heap.size]?=some (.cells #[(.slice X1 D.now.length x1),(.slice (some ⟨g9,o9,none⟩) (D.past.length+1) c9)] 31 (0,0))):=by rw [<- hWO];exact Lib.hid (set2b _ e3)
      have hgO:wA.grownBy WO (some w.heap.size):=by rw [<- hWO,<- hWb];exact W2_grown _ _ _ _
      have hbO:Below w.heap.size wA WO:=(Below.refl _ wA).grown hgO (by omega) (fun k e=>by cases e;exact Nat.le_refl _)
      have HKO:=Lib.hid (kox.keptLow hgO (by omega))
      have HG:=Lib.hid (grown_thenB gx hbO)
      have HR:=Lib.hid (rx.keepB hbO (by omega) (by omega))
      clear bDx bRx kox gx rx e3 hgO hbO)
     have k0:=cell_of_row _ w.heap.size 0 _ _ _ HF.out
     have k1:=cell_of_row _ w.heap.size 1 _ _ _ HF.out
     refine bodyPost_ret (v:=.agg #[(.slice X1 D.now.length x1),(.slice (some ⟨g9,o9,none⟩) (D.past.length+1) c9)]) (by simp [results,Tryz.f46,go_sem,k0,k1]) rfl ?_
     exact ⟨_,_,⟨D.now,D.past++[[(0,0)]]⟩,rfl,DskP.ofKO (HKO.out.mono (by omega)) sm8 hbdn (show D.now.length<=1000 by omega),HG.out,_,by omega,HR.out⟩
end
section
attribute [local go_sem ↓] Go.wp_at_zero Go.wp_at_succ
theorem Bs.upto {w w':World} {B B':Nat} {A:Option Addr} {n:Nat} (h:Bs w B A n) (hb:Below B w w') (hB:B<=B'):Bs w' B' A n:=by
 intro hn
 obtain ⟨b,off,e,hlt,hc⟩:=(h.keep fun k hk=>hb.block k hk) hn
 exact ⟨b,off,e,by omega,hc⟩
theorem EO.grownR {w w':World} {base:Nat} {row:Option Nat} {v:Value} {L:List DV} (h:EO w base v L) (hg:w.grownBy w' row) (hr:∀ r,row=some r->r < base):EO w' base v L:=by
 refine ⟨h.1,?_⟩
 have hl:=owns_lt h
 rcases h.2 with h2 | ⟨g,cap,cur,rfl,hgb,hh,rest⟩
 ·exact .inl h2
 ·have:=hl g (by simp [Value.ownBlock])
  exact .inr ⟨g,cap,cur,rfl,hgb,by rw [hg.block g (by omega) (fun e=>by have:=hr _ e.symm;omega)];exact hh,rest⟩
theorem c_l20Deeds (base r p:Nat) (L:List (Int×Int)) (A:Option Addr) (c:Nat) (w:World) (h:Rd w base r p) (hp:p<=800000000) (hL:L.length<=1000) (hbd:bdX L)
  (hA:∀ W,w.grownBy W (some r)->Cs W W.heap.size A L) :
  Calls Tryz.prog 48 #[.pointer (some ⟨r,0,none⟩),.slice A L.length c] w fun e w'=>∃ v ds,e=.returned v∧EO w' w.heap.size v ds∧ds.length<=5∧w.grownBy w' (some r)∧∃ p',p'<=p+60∧Rd w' base r p':=by
 have hrw:=h.2.1
 have hbr:=h.1
 have hb0:Below w.heap.size w (w.alloc (.cells #[] 39)):=(Below.refl _ w).alloc (Nat.le_refl _) _
 have g0:w.grownBy (w.alloc (.cells #[] 39)) (some r):=World.grownBy_alloc _ _ _
 have o0:EO (w.alloc (.cells #[] 39)) w.heap.size (.slice (some ⟨w.heap.size,0,none⟩) 0 0) []:=EO.empty _ (Nat.le_refl _)
 have HA:=Lib.hid hA
 clear hA
 go_enter Tryz.func48,Tryz.ntmps48
 go_wp2_with fail
 ((with_reducible refine (c_pickI base r p 6 _ (h.keepB hb0 hrw (by omega)) (by omega) (by omega) (by omega)).mono ?_))
 rintro e w1 ⟨x,hx,rfl,hg1,hr1⟩
 have g1:=g0.trans hg1
 have o1:EO w1 w.heap.size (.slice (some ⟨w.heap.size,0,none⟩) 0 0) []:=o0.grownR hg1 (fun k e=>by cases e;omega)
 clear g0 o0 hg1 hb0 h
 go_wp2_with fail
 go_loopw [5,6] (fun v kv wr=>∃ (k q:Nat) (ds:List DV),kv=.int .i64 (k:Int)∧k+ds.length<=5∧q+10 * k<=p+51∧EO wr w.heap.size v ds∧w.grownBy wr (some r)∧Rd wr base r q) (fun _ kv _=>(intOf kv).toNat)
 case atStart=>exact ⟨x,p+1,[],rfl,by simp;omega,by omega,o1,g1,hr1⟩
 case round =>
  clear g1 o1 hr1
  obtain ⟨k,q,ds,rfl,hk,hq,own,gr,rd⟩:=hrel
  have hsr:=gr.size
  by_cases hk0:0 < k
  ·have HL:=Lib.hid (c_l20Deed base r q L A c wr rd (by omega) hL hbd (fun W hg=>HA.out W (gr.trans hg)))
   go_wp2_with fail
   refine HL.out.mono ?_
   rintro e w5 ⟨dk,da,db,rfl,hdk,hda,hdb,hg5,q5,hq5,hr5⟩
   have g5:=gr.trans hg5
   have o5:=own.grownR hg5 (fun k e=>by cases e;omega)
   have hs5:=g5.size
   clear gr own hg5 rd HL
   go_wp2_with (refine app_E ?_ (.tmp 14) (.tmp 18) ?_ w.heap.size u5 ds dk da db w5.heap.size ?_ ?_ ?_ ?_ ?_ ?_ ?_;rfl;rfl;rfl;exact (o5.alloc _);rfl;exact (heap_alloc_new _ _);omega;(first | omega | (simp;omega));intro g cap w6 hown6 hgr6 hb6)
   have hb6':Below w.heap.size w5 w6:=Below.trans (by (repeat (first | exact rfl | exact Below.refl _ _ | (with_reducible refine Below.drew ?_) | (with_reducible refine Below.drewN ?_ _) | (with_reducible refine Below.alloc ?_ ?_ _) | (with_reducible refine Below.setCell ?_ ?_ _) | (show _<=_;focus (first | omega | (simp;done) | (simp;omega)))))) hb6
   have g6:=grown_thenB g5 hb6'
   have r6:=hr5.keepB hb6' hrw (by omega)
   go_wp2_with fail
   go_roundw
   case rel=>exact ⟨k - 1,q5,ds++[⟨dk,da,db⟩],by go_num,by simp;omega,by omega,by simpa using hown6,g6,r6⟩
   case measure=>simp [intOf];omega
  ·go_wp2_with fail
   go_ret
   exact ⟨_,ds,rfl,own,by omega,gr,q,by omega,rd⟩
theorem c_l20OpenB (A:Option Addr) (n c:Nat) (w:World) (B:Nat) (h:Bs w B A n) (hB:B<=w.heap.size) (hn:n<=1048576) (hc:n<=c) :
  Calls Tryz.prog 38 #[.slice A n c] w fun e w'=>∃ r,e=.returned (.pointer (some ⟨r,0,none⟩))∧Rd w' B r 0∧w.heap.size<=r∧Below w.heap.size w w':=by
 by_cases h2:n<=2000
 ·go_enter Tryz.func38,Tryz.ntmps38
  go_wp2
  go_ret
  refine ⟨w.heap.size,rfl,⟨hB,by simp,A,n,c,h2,heap_alloc_new _ _,h.keep fun k hk=>Below.heap_alloc _ _ _ (Nat.lt_of_lt_of_le hk hB)⟩,Nat.le_refl _,by (repeat (first | exact rfl | exact Below.refl _ _ | (with_reducible refine Below.drew ?_) | (with_reducible refine Below.drewN ?_ _) | (with_reducible refine Below.alloc ?_ ?_ _) | (with_reducible refine Below.setCell ?_ ?_ _) | (show _<=_;focus (first | omega | (simp;done) | (simp;omega)))))⟩
 ·go_enter Tryz.func38,Tryz.ntmps38
  go_wp2
  go_ret
  refine ⟨w.heap.size,rfl,⟨hB,by simp,A,2000,c,by omega,heap_alloc_new _ _,fun _=>?_⟩,Nat.le_refl _,by (repeat (first | exact rfl | exact Below.refl _ _ | (with_reducible refine Below.drew ?_) | (with_reducible refine Below.drewN ?_ _) | (with_reducible refine Below.alloc ?_ ?_ _) | (with_reducible refine Below.setCell ?_ ?_ _) | (show _<=_;focus (first | omega | (simp;done) | (simp;omega)))))⟩
  obtain ⟨b,off,rfl,hlt,hcc⟩:=(h.keep (w':=w.alloc (.cells #[.slice A 2000 c,.int .i64 0] 122)) fun k hk=>Below.heap_alloc _ _ _ (Nat.lt_of_lt_of_le hk hB)) (by omega)
  exact ⟨b,off,rfl,hlt,fun k hk=>hcc k (by omega)⟩
theorem Rd.other {w w':World} {base r R p:Nat} (h:Rd w base r p) (hg:w.grownBy w' (some R)) (hr:R≠r) (hb:base<=R):Rd w' base r p:=by
 obtain ⟨h1,h2,A,n,c,hn,hh,hb'⟩:=h
 exact ⟨h1,Nat.lt_of_lt_of_le h2 hg.size,A,n,c,hn,(hg.block r h2 (by simp;omega)).trans hh,hb'.keep fun k hk=>hg.block k (by omega) (by simp;omega)⟩
end
end Go.Proofs.YthpccmkagikhjaaGreatDoor

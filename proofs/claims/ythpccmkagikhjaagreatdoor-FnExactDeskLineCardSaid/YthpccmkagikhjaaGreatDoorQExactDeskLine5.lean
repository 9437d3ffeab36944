import Derived.Test.YthpccmkagikhjaaGreatDoorQExactDeskLine1
import Derived.Test.YthpccmkagikhjaaGreatDoorQExactDeskLine2
import Derived.Test.YthpccmkagikhjaaGreatDoorQExactDeskLine4
namespace Go.Proofs.YthpccmkagikhjaaGreatDoor
set_option linter.unusedVariables false
open Go.RowKit
set_option maxHeartbeats 4000000
section
theorem c_needStep (a x y:Int) (w:World) (h:-9223372036854775808<=a+y∧a+y<=9223372036854775807) :
  Calls Tryz.prog 201 #[.int .i64 a,.agg #[.int .i64 x,.int .i64 y]] w fun e w'=>e=.returned (.int .i64 (a+y))∧Below w.heap.size w w':=by
 obtain ⟨h1,h2⟩:=h
 go_enter Tryz.func201,Tryz.ntmps201
 go_wp2
 go_ret
 exact ⟨rfl,(Below.refl _ _).alloc (Nat.le_refl _) _⟩
theorem c_foldCI (acc:Nat->Value) (L:List (Int×Int)) (A:Option Addr) (c:Nat) (w:World) (hA:Cs w w.heap.size A L) (hn:L.length<=140737488351232)
  (hs:∀ k W,k < L.length->Calls Tryz.prog 201 #[acc k,.agg #[.int .i64 (X L k),.int .i64 (Y L k)]] W fun e w'=>e=.returned (acc (k+1))∧Below W.heap.size W w') :
  Calls Tryz.prog 200 #[.slice A L.length c,acc 0,.func (.func 201) #[] #[]] w fun e w'=>e=.returned (acc L.length)∧Below w.heap.size w w':=by
 have Hs:=Lib.hid hs;clear hs
 go_enter Tryz.func200,Tryz.ntmps200
 go_wp2_with fail
 go_loopw [7,13] (fun a i wr=>∃ k:Nat,k<=L.length∧i=.int .i64 k∧a=acc k∧Below w.heap.size w wr)
   (fun _ i _=>L.length - (intOf i).toNat)
 case atStart=>exact ⟨0,Nat.zero_le _,rfl,rfl,Below.refl _ _⟩
 case round =>
  obtain ⟨k,hk,rfl,rfl,hb⟩:=hrel
  by_cases hlt:k < L.length
  ·obtain ⟨b,off,rfl,hlb,hc⟩:=hA (by omega)
   have c1:=(hb.cell (p:=⟨b,off+k * 2,none⟩) hlb).trans (hc k hlt).1
   have c2:=(hb.cell (p:=⟨b,off+k * 2+1,none⟩) hlb).trans (hc k hlt).2
   clear hc
   have hsz:=hb.size
   go_wp2_with fail
   refine (Hs.out k _ hlt).mono ?_
   rintro e w1 ⟨rfl,hb1⟩
   go_wp2_with fail
   go_roundw
   case rel =>
    refine ⟨k+1,by omega,by go_num,rfl,?_⟩
    refine Below.trans ?_ (hb1.mono ?_)
    all_goals (repeat (first | exact hb | exact Below.refl _ _ | (with_reducible refine Below.drew ?_) | (with_reducible refine Below.drewN ?_ _) | (with_reducible refine Below.alloc ?_ ?_ _) | (with_reducible refine Below.setCell ?_ ?_ _) | (show _<=_;focus (first | omega | (simp;done) | (simp;omega)))))
   case measure=>simp [intOf];omega
  ·go_wp2_with fail
   go_ret
   obtain rfl:k=L.length:=by omega
   exact ⟨rfl,hb⟩
theorem c_iNeedOf (L:List (Int×Int)) (A:Option Addr) (c:Nat) (w:World) (hA:Cs w w.heap.size A L) (hn:L.length<=140737488351232) :
  Calls Tryz.prog 170 #[.slice A L.length c] w fun e w'=>e=.returned (.int .i64 (needOf L))∧Below w.heap.size w w':=by
 by_cases h:cOk L=true
 ·have hsb:=sumTo_bd h
  have hlen:=cOk_len h
  have H:=Lib.hid h;clear h
  have Hsb:=Lib.hid hsb;clear hsb
  go_enter Tryz.func170,Tryz.ntmps170
  go_wp2_with fail
  refine (c_iCustomersOk L A c _ hA hn).mono ?_
  rintro e w1 ⟨rfl,hb1⟩
  rw [H.out]
  go_wp2_with fail
  refine (c_foldCI (fun k=>.int .i64 (sumTo L k)) L A c _ ((hA.below hb1).more hb1.size) hn ?_).mono ?_
  ·intro k W hk
   have h1:=Hsb.out k (by omega)
   have h2:=Hsb.out (k+1) (by omega)
   simp only [sumTo] at h2
   exact c_needStep _ _ _ _ (by omega)
  ·rintro e w2 ⟨rfl,hb2⟩
   go_wp2_with fail
   go_ret
   exact ⟨by simp [needOf,H.out],hb1.trans (hb2.mono hb1.size)⟩
 ·have hno:cOk L=false:=by simpa using h
  have H:=Lib.hid hno;clear h hno
  go_enter Tryz.func170,Tryz.ntmps170
  go_wp2_with fail
  refine (c_iCustomersOk L A c _ hA hn).mono ?_
  rintro e w1 ⟨rfl,hb1⟩
  rw [H.out]
  go_wp2_with fail
  go_ret
  exact ⟨by simp [needOf,H.out],hb1⟩
theorem c_sNeedOf (L:List (Int×Int)) (A:Option Addr) (c:Nat) (w:World) (hA:Cs w w.heap.size A L) (hn:L.length<=140737488351232) :
  Calls Tryz.prog 72 #[.slice A L.length c] w fun e w'=>e=.returned (.int .i64 (needOf L))∧Below w.heap.size w w':=by
 by_cases h:cOk L=true
 ·have hsb:=sumTo_bd h
  have hlen:=cOk_len h
  have H:=Lib.hid h;clear h
  have Hsb:=Lib.hid hsb;clear hsb
  go_enter Tryz.func72,Tryz.ntmps72
  go_wp2_with fail
  refine (c_sCustomersOk L A c _ hA hn).mono ?_
  rintro e w1 ⟨rfl,hb1⟩
  rw [H.out]
  go_wp2_with fail
  go_loop [3,4] (fun s i=>∃ k:Nat,k<=L.length∧i=.int .i64 k∧s=.int .i64 (sumTo L k))
   (fun _ i=>L.length - (intOf i).toNat)
  case atStart=>exact ⟨0,Nat.zero_le _,rfl,rfl⟩
  case round =>
   obtain ⟨k,hk,rfl,rfl⟩:=hrel
   by_cases hlt:k < L.length
   ·obtain ⟨b,off,rfl,hlb,hc⟩:=hA (by omega)
    have c2:=(hb1.cell (p:=⟨b,off+k * 2+1,none⟩) hlb).trans (hc k hlt).2
    have h1:=Hsb.out k (by omega)
    have h2:=Hsb.out (k+1) (by omega)
    simp only [sumTo] at h2
    obtain ⟨h2a,h2b⟩:=h2
    clear hc
    go_wp2_with fail
    go_round
    case rel=>exact ⟨k+1,by omega,by go_num,rfl⟩
    case measure=>simp [intOf];omega
   ·go_wp2_with fail
    go_ret
    obtain rfl:k=L.length:=by omega
    exact ⟨by simp [needOf,H.out],hb1⟩
 ·have hno:cOk L=false:=by simpa using h
  have H:=Lib.hid hno;clear h hno
  go_enter Tryz.func72,Tryz.ntmps72
  go_wp2_with fail
  refine (c_sCustomersOk L A c _ hA hn).mono ?_
  rintro e w1 ⟨rfl,hb1⟩
  rw [H.out]
  go_wp2_with fail
  go_ret
  exact ⟨by simp [needOf,H.out],hb1⟩
end
section
theorem c_comeUpTo (L:List (Int×Int)) (A:Option Addr) (c:Nat) (t:Int) (w:World) (hA:Cs w w.heap.size A L) (hn:L.length<=c) (hc':L.length<=140737488351232) :
  Calls Tryz.prog 238 #[.slice A L.length c,.int .i64 t] w fun e w'=>e=.returned (.slice A (cnt L t) c)∧Below w.heap.size w w':=by
 go_enter Tryz.func238,Tryz.ntmps238
 go_wp2_with fail
 go_loopw [9] (fun i wr=>∃ k:Nat,k<=L.length∧i=.int .i64 k∧Hid (∀ j,j < k->X L j<=t)∧Below w.heap.size w wr)
   (fun i _=>L.length - (intOf i).toNat)
 case atStart=>exact ⟨0,Nat.zero_le _,rfl,fun j h=>by omega,Below.refl _ _⟩
 case round =>
  obtain ⟨k,hk,rfl,hall,hb⟩:=hrel
  by_cases hlt:k < L.length
  ·obtain ⟨b,off,rfl,hlb,hc⟩:=hA (by omega)
   have c1:=(hb.cell (p:=⟨b,off+k * 2,none⟩) hlb).trans (hc k hlt).1
   have c2:=(hb.cell (p:=⟨b,off+k * 2+1,none⟩) hlb).trans (hc k hlt).2
   clear hc
   have hsz:=hb.size
   by_cases ht:t < X L k
   ·go_wp2_with fail
    go_ret
    refine ⟨?_,by (repeat (first | exact hb | exact Below.refl _ _ | (with_reducible refine Below.drew ?_) | (with_reducible refine Below.drewN ?_ _) | (with_reducible refine Below.alloc ?_ ?_ _) | (with_reducible refine Below.setCell ?_ ?_ _) | (show _<=_;focus (first | omega | (simp;done) | (simp;omega)))))⟩
    rw [cnt_of (n:=k) (by omega) hall.out (fun _=>ht)]
    rfl
   ·go_wp2_with fail
    go_roundw
    case rel =>
     refine ⟨k+1,by omega,by go_num,?_,by (repeat (first | exact hb | exact Below.refl _ _ | (with_reducible refine Below.drew ?_) | (with_reducible refine Below.drewN ?_ _) | (with_reducible refine Below.alloc ?_ ?_ _) | (with_reducible refine Below.setCell ?_ ?_ _) | (show _<=_;focus (first | omega | (simp;done) | (simp;omega)))))⟩
     intro j hj
     by_cases e:j=k
     ·subst e;omega
     ·exact hall.out j (by omega)
    case measure=>simp [intOf];omega
  ·go_wp2_with fail
   go_ret
   obtain rfl:k=L.length:=by omega
   refine ⟨?_,hb⟩
   rw [cnt_of (n:=L.length) (by omega) hall.out (fun h=>by omega)]
   rfl
end
section
attribute [local go_sem ↓] Go.wp_at_zero Go.wp_at_succ
theorem c_gapTo (x y p q:Int) (w:World) (h1:-1000<=x) (h2:x<=1000) (h3:-1000<=p) (h4:p<=1000) :
  Calls Tryz.prog 193 #[.agg #[.int .i64 x,.int .i64 y],.agg #[.int .i64 p,.int .i64 q]] w fun e w'=>e=.returned (.int .i64 (p - x))∧Below w.heap.size w w':=by
 go_enter Tryz.func193,Tryz.ntmps193
 go_wp2
 go_ret
 exact ⟨rfl,by (repeat (first | exact rfl | exact Below.refl _ _ | (with_reducible refine Below.drew ?_) | (with_reducible refine Below.drewN ?_ _) | (with_reducible refine Below.alloc ?_ ?_ _) | (with_reducible refine Below.setCell ?_ ?_ _) | (show _<=_;focus (first | omega | (simp;done) | (simp;omega)))))⟩
theorem c_sGapsOf (L:List (Int×Int)) (A:Option Addr) (c:Nat) (w:World) (hA:Cs w w.heap.size A L) (hn:L.length<=140737488351232) :
  Calls Tryz.prog 118 #[.slice A L.length c] w fun e w'=>∃ v,e=.returned v∧IO w' w.heap.size v (gaps L)∧Below w.heap.size w w':=by
 by_cases h:cOk L=true
 ·have Hg:=Lib.hid (gaps_yes h)
  have Hbd:=Lib.hid (fun k=>@cOk_bd L k h)
  have hlen:=cOk_len h
  have H:=Lib.hid h;clear h
  go_enter Tryz.func118,Tryz.ntmps118
  go_wp2_with fail
  go_loopw [3,4] (fun o i wr=>∃ k:Nat,1<=k∧(k<=L.length∨k=1)∧i=.int .i64 k∧IO wr w.heap.size o (gapsTo L k)∧Below w.heap.size w wr)
   (fun _ i _=>L.length - (intOf i).toNat)
  case atStart=>exact ⟨1,by omega,.inr rfl,rfl,IO.empty _ (Nat.le_refl _),by (repeat (first | exact rfl | exact Below.refl _ _ | (with_reducible refine Below.drew ?_) | (with_reducible refine Below.drewN ?_ _) | (with_reducible refine Below.alloc ?_ ?_ _) | (with_reducible refine Below.setCell ?_ ?_ _) | (show _<=_;focus (first | omega | (simp;done) | (simp;omega)))))⟩
  case round =>
   obtain ⟨k,hk1,hk,rfl,hown,hb⟩:=hrel
   by_cases hlt:k < L.length
   ·have hsz:=hb.size
    go_wp2_with fail
    refine (c_sCustomersOk L A c _ ((hA.below hb).more hb.size) hn).mono ?_
    rintro e w5 ⟨rfl,hb5⟩
    rw [H.out]
    obtain ⟨b,off,rfl,hlb,hc⟩:=hA (by omega)
    have hb7:Below w.heap.size w w5:=hb.trans (hb5.mono hsz)
    have hsz7:=hb7.size
    have c1:=(hb7.cell (p:=⟨b,off+k * 2,none⟩) hlb).trans (hc k hlt).1
    have c3:=(hb7.cell (p:=⟨b,off+(k - 1) * 2,none⟩) hlb).trans (hc (k - 1) (by omega)).1
    clear hc
    have bd1:=Hbd.out k (by omega)
    have bd2:=Hbd.out (k - 1) (by omega)
    clear hA
    go_wp2_with fail
    have hown5:=hown.below hb5 (Nat.le_refl _)
    have hk0':(0:Int)<=(k:Int) - 1:=by omega
    have hk1':(k:Int) - 1 < (L.length:Int):=by omega
    have hk2':(1:Int)<=(k:Int):=by omega
    have hk3':(k:Int)<=(L.length:Int):=by omega
    have hk4':k<=L.length:=by omega
    have hlw:b < w5.heap.size:=by omega
    have q5:(gapsTo L k).length<=1000000000000:=by rw [gapsTo_len];omega
    have q6:((k:Int) - 1).toNat=k - 1:=by omega
    have q8:IntKind.i64.wrap (X L k - X L (k - 1))=X L k - X L (k - 1):=IntWalk.i64_in _ (by omega)
    have q7:IntKind.i64.wrap ((k:Int) - 1)=(k:Int) - 1:=IntWalk.i64_in _ (by omega)
    go_region_held3 (fun w'=>w'.cell? ⟨b,off+k * 2,none⟩=some (.int .i64 (X L k))∧w'.cell? ⟨b,off+(k - 1) * 2,none⟩=some (.int .i64 (X L (k - 1))))
     (first
       | go_keep
       | exact ⟨(hb6.cell (p:=⟨b,_,none⟩) hlb).trans ((((Below.refl _ _).alloc (Nat.le_refl _) _).cell (p:=⟨b,_,none⟩) hlw).trans c1),(hb6.cell (p:=⟨b,_,none⟩) hlb).trans ((((Below.refl _ _).alloc (Nat.le_refl _) _).cell (p:=⟨b,_,none⟩) hlw).trans c3)⟩)
     ((refine step_I (by rfl) (.tmp 16) (.tmp 29) (by rfl) w.heap.size u3 (gapsTo L k) (X L k - X L (k - 1)) w5.heap.size (by rfl) ((hown5.alloc _).drew) (by rfl) (heap_alloc_new _ _) q5 ?_ ?_;(clear q6 q7 q8;simp;omega);intro g cap w6 hown6 hgr hb6))
    clear q6 q7 q8
    go_wp2_with fail
    go_roundw
    case rel =>
     refine ⟨k+1,by omega,.inl (by omega),by go_num,by rw [gapsTo_succ L k hk1];exact hown6,?_⟩
     refine Below.trans ?_ hb6
     (repeat (first | exact hb7 | exact Below.refl _ _ | (with_reducible refine Below.drew ?_) | (with_reducible refine Below.drewN ?_ _) | (with_reducible refine Below.alloc ?_ ?_ _) | (with_reducible refine Below.setCell ?_ ?_ _) | (show _<=_;focus (first | omega | (simp;done) | (simp;omega)))))
    case measure=>simp [intOf];omega
   ·go_wp2_with fail
    go_ret
    refine ⟨_,rfl,?_,hb⟩
    rw [Hg.out]
    have e:gapsTo L k=gapsTo L L.length:=by
     rcases hk with hk | hk
     ·rw [show k=L.length by omega]
     ·subst hk
      have e1:L.length - 1=0:=by omega
      simp [gapsTo,e1]
    rw [<- e]
    exact hown
 ·have hno:cOk L=false:=by simpa using h
  have Hg:=Lib.hid (gaps_no hno)
  have H:=Lib.hid hno;clear h hno
  by_cases h1:1 < L.length
  ·go_enter Tryz.func118,Tryz.ntmps118
   go_wp2_with fail
   refine wp_loop_rounds 1 ?_
   rw [rounds_succ]
   go_wp2_with fail
   have hbw:Below w.heap.size w (w.alloc (.cells #[] 3)):=by (repeat (first | exact rfl | exact Below.refl _ _ | (with_reducible refine Below.drew ?_) | (with_reducible refine Below.drewN ?_ _) | (with_reducible refine Below.alloc ?_ ?_ _) | (with_reducible refine Below.setCell ?_ ?_ _) | (show _<=_;focus (first | omega | (simp;done) | (simp;omega)))))
   refine (c_sCustomersOk L A c _ ((hA.below hbw).more hbw.size) hn).mono ?_
   rintro e w5 ⟨rfl,hb5⟩
   rw [H.out]
   go_wp2_with fail
   go_ret
   refine ⟨_,rfl,?_,hbw.trans (hb5.mono hbw.size)⟩
   rw [Hg.out]
   exact (IO.empty _ (Nat.le_refl _)).below hb5 (Nat.le_refl _)
  ·go_enter Tryz.func118,Tryz.ntmps118
   go_wp2_with fail
   refine wp_loop_rounds 1 ?_
   rw [rounds_succ]
   go_wp2_with fail
   go_ret
   refine ⟨_,rfl,?_,by (repeat (first | exact rfl | exact Below.refl _ _ | (with_reducible refine Below.drew ?_) | (with_reducible refine Below.drewN ?_ _) | (with_reducible refine Below.alloc ?_ ?_ _) | (with_reducible refine Below.setCell ?_ ?_ _) | (show _<=_;focus (first | omega | (simp;done) | (simp;omega)))))⟩
   rw [Hg.out]
   exact IO.empty _ (Nat.le_refl _)
end
section
attribute [local go_sem ↓] Go.wp_at_zero Go.wp_at_succ
theorem c_later (x y t:Int) (w:World) (h1:-1000<=x) (h2:x<=1000) (h3:-1000<=t) (h4:t<=1000) :
  Calls Tryz.prog 217 #[.agg #[.int .i64 x,.int .i64 y],.int .i64 t] w fun e w'=>e=.returned (.agg #[.int .i64 (x+t),.int .i64 y])∧Below w.heap.size w w':=by
 go_enter Tryz.func217,Tryz.ntmps217
 go_wp2
 exact bodyPost_ret (v:=.agg #[.int .i64 (x+t),.int .i64 y]) (by simp [results,Tryz.results217,go_sem]) rfl ⟨rfl,by (repeat (first | exact rfl | exact Below.refl _ _ | (with_reducible refine Below.drew ?_) | (with_reducible refine Below.drewN ?_ _) | (with_reducible refine Below.alloc ?_ ?_ _) | (with_reducible refine Below.setCell ?_ ?_ _) | (show _<=_;focus (first | omega | (simp;done) | (simp;omega)))))⟩
def laterV (v:Value) (b:Bool):Value:=.tuple #[v,.bool b]
theorem c_iLaterBy (L:List (Int×Int)) (A:Option Addr) (c:Nat) (t:Int) (w:World) (hA:Cs w w.heap.size A L) (hn:L.length<=140737488351232) :
  Calls Tryz.prog 180 #[.slice A L.length c,.int .i64 t] w fun e w'=>∃ v,e=.returned (laterV v (laterOk L t))∧CO w' w.heap.size v (laterR L t)∧Below w.heap.size w w':=by
 by_cases h:cOk L=true
 ·by_cases ht:0<=t∧t<=60
  ·have ht':decide (0<=t∧t<=60)=true:=by simpa using ht
   have Hbd:=Lib.hid (fun k=>@cOk_bd L k h)
   have hlen:=cOk_len h
   have Hq:=Lib.hid (show laterOk L t=cOk (laterL L t) by simp [laterOk,h,ht])
   have H:=Lib.hid h;clear h
   go_enter Tryz.func180,Tryz.ntmps180
   go_wp2_with fail
   refine (c_iCustomersOk L A c _ hA hn).mono ?_
   rintro e w1 ⟨rfl,hb1⟩
   rw [H.out]
   go_wp2_with fail
   refine (c_within _ _ _ _).mono ?_
   rintro e w' ⟨rfl,rfl⟩
   go_wp2_with fail
   go_loopw [6,19] (fun o i wr=>∃ k:Nat,k<=L.length∧i=.int .i64 k∧CO wr w.heap.size o (laterTo L t k)∧Below w.heap.size w wr)
    (fun _ i _=>L.length - (intOf i).toNat)
   case atStart=>exact ⟨0,by omega,rfl,CO.nil _ _,hb1⟩
   case round =>
    obtain ⟨k,hk,rfl,hown,hb⟩:=hrel
    by_cases hlt:k < L.length
    ·obtain ⟨b,off,rfl,hlb,hc⟩:=hA (by omega)
     have c1:=(hb.cell (p:=⟨b,off+k * 2,none⟩) hlb).trans (hc k hlt).1
     have c2:=(hb.cell (p:=⟨b,off+k * 2+1,none⟩) hlb).trans (hc k hlt).2
     clear hc
     have hsz:=hb.size
     have bd1:=Hbd.out k (by omega)
     have q5:(laterTo L t k).length=k:=laterTo_len (by omega)
     have Q5:=Lib.hid q5;clear q5
     clear hb1 hA
     go_wp2_with fail
     refine (c_later (X L k) (Y L k) t _ (by omega) (by omega) (by omega) (by omega)).mono ?_
     rintro e w5 ⟨rfl,hb5⟩
     have h5:Below wr.heap.size wr w5:=Below.trans (by (repeat (first | exact rfl | exact Below.refl _ _ | (with_reducible refine Below.drew ?_) | (with_reducible refine Below.drewN ?_ _) | (with_reducible refine Below.alloc ?_ ?_ _) | (with_reducible refine Below.setCell ?_ ?_ _) | (show _<=_;focus (first | omega | (simp;done) | (simp;omega)))))) (hb5.mono (by simp))
     have o5:=hown.below h5 (Nat.le_refl _)
     have hs5:=h5.size
     have hz5:=hb.trans (h5.mono hsz)
     clear hb5 h5 hown
     go_wp2_with (refine app_C (by rfl) (.tmp 23) (.tmp 27) (by rfl) w.heap.size u6 (laterTo L t k) (X L k+t) (Y L k) w5.heap.size (by rfl) (o5.alloc _) (by rfl) (heap_alloc_new _ _) (by rw [Q5.out];omega) (by simp;omega) ?_;intro g cap w6 hown6 hgr6 hb6)
     go_roundw
     case rel =>
      refine ⟨k+1,by omega,by go_num,?_,hz5.trans (Below.trans (by (repeat (first | exact rfl | exact Below.refl _ _ | (with_reducible refine Below.drew ?_) | (with_reducible refine Below.drewN ?_ _) | (with_reducible refine Below.alloc ?_ ?_ _) | (with_reducible refine Below.setCell ?_ ?_ _) | (show _<=_;focus (first | omega | (simp;done) | (simp;omega)))))) hb6)⟩
      rw [laterTo_succ hlt]
      exact hown6
     case measure=>simp [intOf];omega
    ·obtain rfl:k=L.length:=by omega
     have e1:laterTo L t L.length=laterL L t:=laterTo_all L t
     rw [e1] at hown
     obtain ⟨A2,c2,rfl,hc21,hc22,hA2⟩:=hown.form
     have hown':=hown
     clear hown e1 hb1
     have hsz:=hb.size
     rw [laterL_len] at hown' hc21 ⊢
     go_wp2_with fail
     have K:=c_iCustomersOk (laterL L t) A2 c2 wr hA2 (by rw [laterL_len];omega)
     rw [laterL_len] at K
     refine K.mono ?_
     clear K
     rintro e w7 ⟨rfl,hb7⟩
     have o7:=hown'.below hb7 (Nat.le_refl _)
     by_cases hq:cOk (laterL L t)=true
     ·have HQ:=Lib.hid hq;clear hq
      rw [HQ.out]
      go_wp2_with fail
      go_ret2
      refine ⟨.slice A2 L.length c2,?_,?_,hb.trans (hb7.mono hsz)⟩
      ·rw [Hq.out,HQ.out];rfl
      ·rw [laterR_yes (by rw [Hq.out,HQ.out])];exact o7
     ·have hq':cOk (laterL L t)=false:=by simpa using hq
      have HQ:=Lib.hid hq';clear hq hq'
      rw [HQ.out]
      go_wp2_with fail
      go_ret2
      refine ⟨.slice none 0 0,?_,?_,hb.trans (hb7.mono hsz)⟩
      ·rw [Hq.out,HQ.out];rfl
      ·rw [laterR_no (by rw [Hq.out,HQ.out])];exact CO.nil _ _
  ·have ht':decide (0<=t∧t<=60)=false:=by simpa using ht
   have Hq:=Lib.hid (show laterOk L t=false by simp [laterOk,ht])
   have H:=Lib.hid h;clear h
   go_enter Tryz.func180,Tryz.ntmps180
   go_wp2_with fail
   refine (c_iCustomersOk L A c _ hA hn).mono ?_
   rintro e w1 ⟨rfl,hb1⟩
   rw [H.out]
   go_wp2_with fail
   refine (c_within _ _ _ _).mono ?_
   rintro e w' ⟨rfl,rfl⟩
   go_wp2_with fail
   go_ret2
   refine ⟨.slice none 0 0,?_,?_,hb1⟩
   ·rw [Hq.out];rfl
   ·rw [laterR_no Hq.out];exact CO.nil _ _
 ·have hno:cOk L=false:=by simpa using h
  have Hq:=Lib.hid (show laterOk L t=false by simp [laterOk,hno])
  have H:=Lib.hid hno;clear h hno
  go_enter Tryz.func180,Tryz.ntmps180
  go_wp2_with fail
  refine (c_iCustomersOk L A c _ hA hn).mono ?_
  rintro e w1 ⟨rfl,hb1⟩
  rw [H.out]
  go_wp2_with fail
  go_ret2
  refine ⟨.slice none 0 0,?_,?_,hb1⟩
  ·rw [Hq.out];rfl
  ·rw [laterR_no Hq.out];exact CO.nil _ _
theorem c_sLastLeave (L:List (Int×Int)) (A:Option Addr) (c:Nat) (w:World) (hA:Cs w w.heap.size A L) (hn:L.length<=140737488351232) :
  Calls Tryz.prog 120 #[.slice A L.length c] w fun e w'=>e=.returned (.int .i64 (lastLeave L))∧Below w.heap.size w w':=by
 by_cases h:cOk L=true
 ·have Hs:=Lib.hid (sumB_bd h)
  have Hb:=Lib.hid (bestB_bd h)
  have Hbd:=Lib.hid (fun k=>@cOk_bd L k h)
  have hlen:=cOk_len h
  have H:=Lib.hid h;clear h
  go_enter Tryz.func120,Tryz.ntmps120
  go_wp2_with fail
  refine (c_sCustomersOk L A c _ hA hn).mono ?_
  rintro e w1 ⟨rfl,hb1⟩
  rw [H.out]
  go_wp2_with fail
  go_loop [3,4,5] (fun b s i=>∃ k j:Nat,k+j=L.length∧i=.int .i64 ((k:Int) - 1)∧s=.int .i64 (sumB L j)∧b=.int .i64 (bestB L j))
   (fun _ _ i=>(intOf i+1).toNat)
  case atStart=>exact ⟨L.length,0,by omega,rfl,rfl,rfl⟩
  case round =>
   obtain ⟨k,j,hkj,rfl,rfl,rfl⟩:=hrel
   by_cases hlt:0 < k
   ·obtain ⟨b,off,rfl,hlb,hc⟩:=hA (by omega)
    have c1:=(hb1.cell (p:=⟨b,off+(k - 1) * 2,none⟩) hlb).trans (hc (k - 1) (by omega)).1
    have c2:=(hb1.cell (p:=⟨b,off+(k - 1) * 2+1,none⟩) hlb).trans (hc (k - 1) (by omega)).2
    clear hc
    have e0:L.length - 1 - j=k - 1:=by omega
    have h1:=Hs.out j (by omega)
    have h2:=Hs.out (j+1) (by omega)
    have h3:=Hb.out j (by omega)
    have h4:=Hbd.out (k - 1) (by omega)
    have E1:=Lib.hid (show sumB L (j+1)=sumB L j+Y L (k - 1) by simp only [sumB,e0])
    have E2:=Lib.hid (show bestB L (j+1)=max (bestB L j) (X L (k - 1)+(sumB L j+Y L (k - 1))) by simp only [bestB,sumB,e0])
    rw [E1.out] at h2
    clear e0
    have hk0':(0:Int)<=(k:Int) - 1:=by omega
    have hk1':(k:Int) - 1 < (L.length:Int):=by omega
    go_wp2_with fail
    go_round
    case rel=>exact ⟨k - 1,j+1,by omega,by go_num,by rw [E1.out],by rw [E2.out];congr 1;split <;> omega⟩
    case measure=>simp [intOf];omega
   ·go_wp2_with fail
    go_ret
    obtain rfl:j=L.length:=by omega
    exact ⟨by rw [lastLeave_yes H.out];rfl,hb1⟩
 ·have hno:cOk L=false:=by simpa using h
  have H:=Lib.hid hno;clear h hno
  go_enter Tryz.func120,Tryz.ntmps120
  go_wp2_with fail
  refine (c_sCustomersOk L A c _ hA hn).mono ?_
  rintro e w1 ⟨rfl,hb1⟩
  rw [H.out]
  go_wp2_with fail
  go_ret
  exact ⟨by rw [lastLeave_no H.out];rfl,hb1⟩
theorem c_sLaterBy (L:List (Int×Int)) (A:Option Addr) (c:Nat) (t:Int) (w:World) (hA:Cs w w.heap.size A L) (hn:L.length<=1048576) :
  Calls Tryz.prog 153 #[.slice A L.length c,.int .i64 t] w fun e w'=>∃ v,e=.returned (laterV v (laterOk L t))∧CO w' w.heap.size v (laterR L t)∧Below w.heap.size w w':=by
 have ht':decide (0<=t∧t<=60)=true∨decide (0<=t∧t<=60)=false:=by cases decide (0<=t∧t<=60) <;> simp
 go_enter Tryz.func153,Tryz.ntmps153
 go_wp2_with fail
 go_loopw [6,7] (fun o i wr=>∃ k:Nat,k<=L.length∧i=.int .i64 k∧CO wr w.heap.size o (laterWTo L t k)∧Below w.heap.size w wr)
  (fun _ i _=>L.length - (intOf i).toNat)
 case atStart=>exact ⟨0,by omega,rfl,CO.empty _ (Nat.le_refl _),by (repeat (first | exact rfl | exact Below.refl _ _ | (with_reducible refine Below.drew ?_) | (with_reducible refine Below.drewN ?_ _) | (with_reducible refine Below.alloc ?_ ?_ _) | (with_reducible refine Below.setCell ?_ ?_ _) | (show _<=_;focus (first | omega | (simp;done) | (simp;omega)))))⟩
 case round =>
  obtain ⟨k,hk,rfl,hown,hb⟩:=hrel
  by_cases hlt:k < L.length
  ·obtain ⟨b,off,rfl,hlb,hc⟩:=hA (by omega)
   have c1:=(hb.cell (p:=⟨b,off+k * 2,none⟩) hlb).trans (hc k hlt).1
   have c2:=(hb.cell (p:=⟨b,off+k * 2+1,none⟩) hlb).trans (hc k hlt).2
   clear hc
   have hsz:=hb.size
   have q5:(laterWTo L t k).length<=1000000000000:=by rw [laterWTo_len (by omega)];omega
   have hlw:b < wr.heap.size:=by omega
   clear hA
   go_wp2_with fail
   go_region_held3 (fun w'=>w'.cell? ⟨b,off+k * 2,none⟩=some (.int .i64 (X L k))∧w'.cell? ⟨b,off+k * 2+1,none⟩=some (.int .i64 (Y L k)))
    (first
      | go_keep
      | exact ⟨(hb6.cell (p:=⟨b,_,none⟩) hlb).trans ((((Below.refl _ _).alloc (Nat.le_refl _) _).cell (p:=⟨b,_,none⟩) hlw).trans c1),(hb6.cell (p:=⟨b,_,none⟩) hlb).trans ((((Below.refl _ _).alloc (Nat.le_refl _) _).cell (p:=⟨b,_,none⟩) hlw).trans c2)⟩)
    ((refine step_C (by rfl) (.tmp 15) (.tmp 29) (by rfl) w.heap.size u6 (laterWTo L t k) (IntKind.i64.wrap (X L k+t)) (Y L k) wr.heap.size (by rfl) ((hown.alloc _).drew) (by rfl) (heap_alloc_new _ _) q5 ?_ ?_;(simp;omega);intro g cap w6 hown6 hgr hb6))
   go_wp2_with fail
   go_roundw
   case rel =>
    refine ⟨k+1,by omega,by go_num,by rw [laterWTo_succ hlt];exact hown6,?_⟩
    refine Below.trans ?_ hb6
    (repeat (first | exact hb | exact Below.refl _ _ | (with_reducible refine Below.drew ?_) | (with_reducible refine Below.drewN ?_ _) | (with_reducible refine Below.alloc ?_ ?_ _) | (with_reducible refine Below.setCell ?_ ?_ _) | (show _<=_;focus (first | omega | (simp;done) | (simp;omega)))))
   case measure=>simp [intOf];omega
  ·obtain rfl:k=L.length:=by omega
   have e1:laterWTo L t L.length=laterW L t:=laterWTo_all L t
   rw [e1] at hown
   obtain ⟨A2,c2,rfl,hc21,hc22,hA2⟩:=hown.form
   have hown':=hown
   clear hown e1
   have hsz:=hb.size
   rw [laterW_len] at hown' hc21 ⊢
   by_cases h:cOk L=true
   ·have HA:=Lib.hid h
    by_cases hq:cOk (laterW L t)=true
    ·have HQ:=Lib.hid hq
     rcases ht' with ht' | ht'
     ·have htt:0<=t∧t<=60:=by simpa using ht'
      have HE:=Lib.hid (laterW_eq h htt)
      have Hy:=Lib.hid (show laterOk L t=true by simp only [laterOk,h,ht',<- laterW_eq h htt,hq,Bool.and_true])
      clear h hq
      go_wp2_with fail
      refine (c_sCustomersOk L A c wr ((hA.below hb).more hsz) (by omega)).mono ?_
      rintro e w7 ⟨rfl,hb7⟩
      rw [HA.out]
      go_wp2_with fail
      have K:=c_sCustomersOk (laterW L t) A2 c2 w7 ((hA2.below hb7).more hb7.size) (by rw [laterW_len];omega)
      rw [laterW_len] at K
      refine K.mono ?_
      clear K
      rintro e w8 ⟨rfl,hb8⟩
      rw [HQ.out]
      go_wp2_with fail
      refine (c_l1In _ _ _ _).mono ?_
      rintro e w' ⟨rfl,rfl⟩
      go_wp2_with fail
      go_ret2
      refine ⟨.slice A2 L.length c2,?_,?_,(hb.trans (hb7.mono hsz)).trans (hb8.mono (Nat.le_trans hsz hb7.size))⟩
      ·rw [Hy.out];rfl
      ·rw [laterR_yes Hy.out,<- HE.out]
       exact (hown'.below hb7 (Nat.le_refl _)).below hb8 (Nat.le_refl _)
     ·have Hy:=Lib.hid (show laterOk L t=false by simp only [laterOk,ht',Bool.and_false,Bool.false_and])
      clear h hq
      go_wp2_with fail
      refine (c_sCustomersOk L A c wr ((hA.below hb).more hsz) (by omega)).mono ?_
      rintro e w7 ⟨rfl,hb7⟩
      rw [HA.out]
      go_wp2_with fail
      have K:=c_sCustomersOk (laterW L t) A2 c2 w7 ((hA2.below hb7).more hb7.size) (by rw [laterW_len];omega)
      rw [laterW_len] at K
      refine K.mono ?_
      clear K
      rintro e w8 ⟨rfl,hb8⟩
      rw [HQ.out]
      go_wp2_with fail
      refine (c_l1In _ _ _ _).mono ?_
      rintro e w' ⟨rfl,rfl⟩
      go_wp2_with fail
      go_ret2
      have hb9:=(hb.trans (hb7.mono hsz)).trans (hb8.mono (Nat.le_trans hsz hb7.size))
      have hs9:=hb9.size
      refine ⟨.slice (some ⟨w'.heap.size,0,none⟩) 0 0,?_,?_,by (repeat (first | exact hb9 | exact Below.refl _ _ | (with_reducible refine Below.drew ?_) | (with_reducible refine Below.drewN ?_ _) | (with_reducible refine Below.alloc ?_ ?_ _) | (with_reducible refine Below.setCell ?_ ?_ _) | (show _<=_;focus (first | omega | (simp;done) | (simp;omega)))))⟩
      ·rw [Hy.out];rfl
      ·rw [laterR_no Hy.out]
       exact CO.empty _ hb9.size
    ·have hq':cOk (laterW L t)=false:=by simpa using hq
     have HQ:=Lib.hid hq'
     have Hy:=Lib.hid (show laterOk L t=false by
      rcases ht' with ht' | ht'
      ·have htt:0<=t∧t<=60:=by simpa using ht'
       simp only [laterOk,h,ht',<- laterW_eq h htt,hq',Bool.and_false]
      ·simp only [laterOk,ht',Bool.and_false,Bool.false_and])
     clear h hq hq' ht'
     go_wp2_with fail
     refine (c_sCustomersOk L A c wr ((hA.below hb).more hsz) (by omega)).mono ?_
     rintro e w7 ⟨rfl,hb7⟩
     rw [HA.out]
     go_wp2_with fail
     have K:=c_sCustomersOk (laterW L t) A2 c2 w7 ((hA2.below hb7).more hb7.size) (by rw [laterW_len];omega)
     rw [laterW_len] at K
     refine K.mono ?_
     clear K
     rintro e w8 ⟨rfl,hb8⟩
     rw [HQ.out]
     go_wp2_with fail
     go_ret2
     have hb9:=(hb.trans (hb7.mono hsz)).trans (hb8.mono (Nat.le_trans hsz hb7.size))
     have hs9:=hb9.size
     refine ⟨.slice (some ⟨w8.heap.size,0,none⟩) 0 0,?_,?_,by (repeat (first | exact hb9 | exact Below.refl _ _ | (with_reducible refine Below.drew ?_) | (with_reducible refine Below.drewN ?_ _) | (with_reducible refine Below.alloc ?_ ?_ _) | (with_reducible refine Below.setCell ?_ ?_ _) | (show _<=_;focus (first | omega | (simp;done) | (simp;omega)))))⟩
     ·rw [Hy.out];rfl
     ·rw [laterR_no Hy.out]
      exact CO.empty _ hb9.size
   ·have hno:cOk L=false:=by simpa using h
    have Hy:=Lib.hid (show laterOk L t=false by simp only [laterOk,hno,Bool.false_and])
    have H:=Lib.hid hno;clear h hno ht'
    go_wp2_with fail
    refine (c_sCustomersOk L A c wr ((hA.below hb).more hsz) (by omega)).mono ?_
    rintro e w7 ⟨rfl,hb7⟩
    rw [H.out]
    go_wp2_with fail
    go_ret2
    have hb9:=hb.trans (hb7.mono hsz)
    have hs9:=hb9.size
    refine ⟨.slice (some ⟨w7.heap.size,0,none⟩) 0 0,?_,?_,by (repeat (first | exact hb9 | exact Below.refl _ _ | (with_reducible refine Below.drew ?_) | (with_reducible refine Below.drewN ?_ _) | (with_reducible refine Below.alloc ?_ ?_ _) | (with_reducible refine Below.setCell ?_ ?_ _) | (show _<=_;focus (first | omega | (simp;done) | (simp;omega)))))⟩
    ·rw [Hy.out];rfl
    ·rw [laterR_no Hy.out]
     exact CO.empty _ hb9.size
end
section
attribute [local go_sem ↓] Go.wp_at_zero Go.wp_at_succ
theorem c_foldCL (I:Nat->Value->World->Prop) (caps:Array Value) (B:Nat) (L:List (Int×Int)) (A:Option Addr) (c:Nat) (v0:Value) (wA w:World) (hA:Cs wA B A L) (hn:L.length<=140737488351232)
  (hkeep:∀ k v W W',I k v W->Below W.heap.size W W'->I k v W') (hbel:∀ k v W,I k v W->Below B wA W)
  (hs:∀ k v W,k < L.length->I k v W->Calls Tryz.prog 192 (#[v,.agg #[.int .i64 (X L k),.int .i64 (Y L k)]]++caps) W fun e w'=>∃ v',e=.returned v'∧I (k+1) v' w')
  (h0:I 0 v0 w) :
  Calls Tryz.prog 191 #[.slice A L.length c,v0,.func (.func 192) #[] caps] w fun e w'=>∃ v',e=.returned v'∧I L.length v' w':=by
 have Hs:=Lib.hid hs;clear hs
 have Hk:=Lib.hid hkeep;clear hkeep
 have Hb:=Lib.hid hbel;clear hbel
 go_enter Tryz.func191,Tryz.ntmps191
 go_wp2_with fail
 go_loopw [7,13] (fun a i wr=>∃ k:Nat,k<=L.length∧i=.int .i64 k∧Hid (I k a wr))
   (fun _ i _=>L.length - (intOf i).toNat)
 case atStart=>exact ⟨0,Nat.zero_le _,rfl,h0⟩
 case round =>
  obtain ⟨k,hk,rfl,hI⟩:=hrel
  have hb:=Hb.out _ _ _ hI.out
  by_cases hlt:k < L.length
  ·obtain ⟨b,off,rfl,hlb,hc⟩:=hA (by omega)
   have c1:=(hb.cell (p:=⟨b,off+k * 2,none⟩) hlb).trans (hc k hlt).1
   have c2:=(hb.cell (p:=⟨b,off+k * 2+1,none⟩) hlb).trans (hc k hlt).2
   clear hc
   go_wp2_with fail
   have hsz:wr.heap.size<=(wr.alloc (.cells #[.int .i64 (X L k),.int .i64 (Y L k)] 100)).heap.size:=by simp
   have hI2:=Hk.out k _ wr (wr.alloc (.cells #[.int .i64 (X L k),.int .i64 (Y L k)] 100)) hI.out (by (repeat (first | exact rfl | exact Below.refl _ _ | (with_reducible refine Below.drew ?_) | (with_reducible refine Below.drewN ?_ _) | (with_reducible refine Below.alloc ?_ ?_ _) | (with_reducible refine Below.setCell ?_ ?_ _) | (show _<=_;focus (first | omega | (simp;done) | (simp;omega))))))
   refine (Hs.out k _ _ hlt hI2).mono ?_
   rintro e w1 ⟨v1,rfl,hI1⟩
   go_wp2_with fail
   go_roundw
   case rel=>exact ⟨k+1,by omega,by go_num,hI1⟩
   case measure=>simp [intOf];omega
  ·go_wp2_with fail
   go_ret
   obtain rfl:k=L.length:=by omega
   exact ⟨_,rfl,hI.out⟩
def wv (L:List (Int×Int)):Nat->Int
 | 0=>0
 | k+1=>waitAt L k
def ay (L:List (Int×Int)):Nat->Int
 | 0=>0
 | k+1=>Y L k
theorem wv_succ {L:List (Int×Int)} (h:cOk L=true) {k:Nat} (hk:k < L.length):waitAt L k=max 0 (wv L k+ay L k - (X L k - prevOf L k)):=by
 cases k with
 | zero =>
  have:=cOk_bd h hk
  simp only [waitAt,wv,ay,prevOf];simp;omega
 | succ k=>simp only [waitAt,wv,ay,prevOf_succ];omega
theorem wv_bd {L:List (Int×Int)} (h:cOk L=true) {k:Nat} (hk:k < L.length):0<=wv L k∧wv L k<=100∧0<=ay L k∧ay L k<=9∧0<=prevOf L k∧prevOf L k<=60:=by
 have hl:=cOk_len h
 cases k with
 | zero=>simp [wv,ay,prevOf]
 | succ k =>
  have:=waitAt_bd h k (by omega)
  have:=cOk_bd h (k:=k) (by omega)
  simp only [wv,ay,prevOf_succ];omega
structure WInv (L:List (Int×Int)) (w:World) (B p q b:Nat) (k:Nat) (v:Value) (W:World):Prop where
 below:Below B w W
 hp:B<=p
 hpq:p < q
 hqb:q < b
 hb:b<=W.heap.size
 cp:W.heap[p]?=some (.cells #[.int .i64 (wv L k)] 3 (0,0))
 cq:W.heap[q]?=some (.cells #[.int .i64 (prevOf L k),.int .i64 (ay L k)] 100 (0,0))
 own:IO W b v (waitsTo L k)
theorem WInv.keep {L:List (Int×Int)} {w:World} {B p q b k:Nat} {v:Value} {W W':World} (h:WInv L w B p q b k v W) (hW:Below W.heap.size W W'):WInv L w B p q b k v W':=by
 obtain ⟨h1,h2,h3,h4,h5,h6,h7,h8⟩:=h
 have hs:=hW.size
 exact ⟨h1.trans (hW.mono (by omega)),h2,h3,h4,by omega,(hW.block p (by omega)).trans h6,(hW.block q (by omega)).trans h7,h8.below hW (Nat.le_refl _)⟩
end
section
attribute [local go_sem ↓] Go.wp_at_zero Go.wp_at_succ
theorem c_waitStep (L:List (Int×Int)) (h:cOk L=true) (w W:World) (B p q b k:Nat) (v:Value) (hk:k < L.length) (hI:WInv L w B p q b k v W) :
  Calls Tryz.prog 192 (#[v,.agg #[.int .i64 (X L k),.int .i64 (Y L k)]]++#[.pointer (some ⟨p,0,none⟩),.pointer (some ⟨q,0,none⟩)]) W fun e w'=>∃ v',e=.returned v'∧WInv L w B p q b (k+1) v' w':=by
 obtain ⟨h1,h2,h3,h4,h5,h6,h7,h8⟩:=hI
 have hl8:=cOk_len h
 have hbd:=cOk_bd h hk
 have hwv:=wv_bd h hk
 have HE:=Lib.hid (wv_succ h hk)
 have c0:W.cell? ⟨p,0,none⟩=some (.int .i64 (wv L k)):=by simp [cell_of_row W p 0 _ _ _ h6]
 have c1:W.cell? ⟨q,0,none⟩=some (.int .i64 (prevOf L k)):=by simp [cell_of_row W q 0 _ _ _ h7]
 have c2:W.cell? ⟨q,1,none⟩=some (.int .i64 (ay L k)):=by simp [cell_of_row W q 1 _ _ _ h7]
 have f0:W.frozen? ⟨p,0,none⟩=false:=by simp [World.frozen?,h6]
 have f1:W.frozen? ⟨q,0,none⟩=false:=by simp [World.frozen?,h7]
 have f2:W.frozen? ⟨q,1,none⟩=false:=by simp [World.frozen?,h7]
 go_enter Tryz.func192,Tryz.ntmps192
 go_wp2_with fail
 have hpW:p < W.heap.size:=by omega
 have hqW:q < W.heap.size:=by omega
 have hpq':p≠q:=by omega
 have g1:-1000<=prevOf L k:=by omega
 have g2:prevOf L k<=1000:=by omega
 have g3:-1000<=X L k:=by omega
 have g4:X L k<=1000:=by omega
 have q1:IntKind.i64.wrap (wv L k+ay L k)=wv L k+ay L k:=IntWalk.i64_in _ (by omega)
 have q2:IntKind.i64.wrap (wv L k+ay L k - (X L k - prevOf L k))=wv L k+ay L k - (X L k - prevOf L k):=IntWalk.i64_in _ (by omega)
 obtain ⟨W1,hW1⟩:∃ W1,W1=W.alloc (.cells #[.int .i64 (X L k),.int .i64 (Y L k)] 100):=⟨_,rfl⟩
 have hz:W.heap.size < W1.heap.size:=by rw [hW1];simp
 have hB1:Below W.heap.size W W1:=by rw [hW1];(repeat (first | exact rfl | exact Below.refl _ _ | (with_reducible refine Below.drew ?_) | (with_reducible refine Below.drewN ?_ _) | (with_reducible refine Below.alloc ?_ ?_ _) | (with_reducible refine Below.setCell ?_ ?_ _) | (show _<=_;focus (first | omega | (simp;done) | (simp;omega)))))
 have hh1:W1.heap[W.heap.size]?=some (.cells #[.int .i64 (X L k),.int .i64 (Y L k)] 100 (0,0)):=by rw [hW1];exact heap_alloc_new _ _
 rw [<- hW1]
 have e0:=WB.cell (B:=W1.heap.size) (w:=W1) (by omega) ((hB1.cell (p:=⟨p,0,none⟩) hpW).trans c0)
 have e1:=WB.cell (B:=W1.heap.size) (w:=W1) (by omega) ((hB1.cell (p:=⟨q,0,none⟩) hqW).trans c1)
 have e2:=WB.cell (B:=W1.heap.size) (w:=W1) (by omega) ((hB1.cell (p:=⟨q,1,none⟩) hqW).trans c2)
 have e3:=WB.cell (B:=W1.heap.size) (w:=W1) (b:=W.heap.size) (o:=0) (v:=.int .i64 (X L k)) hz (by simp [cell_of_row W1 W.heap.size 0 _ _ _ hh1])
 have e4:=WB.cell (B:=W1.heap.size) (w:=W1) (b:=W.heap.size) (o:=1) (v:=.int .i64 (Y L k)) hz (by simp [cell_of_row W1 W.heap.size 1 _ _ _ hh1])
 refine wp_region_wb_tail W1.heap.size 9 (by kernel_rfl) (by kernel_rfl) ?_
 simp only [List.take_succ_cons,List.take_zero,List.drop_succ_cons,List.drop_zero]
 repeat (go_big_quiet_step ((go_at_call 193;exact Calls.inB (Nat.le_refl _) (c_gapTo _ _ _ _ _ g1 g2 g3 g4))))
 refine wpQuiet_nil ?_
 rintro _ ⟨⟨w5,hb5⟩,rfl⟩
 have hv:(if X L k - prevOf L k < wv L k+ay L k then wv L k+ay L k - (X L k - prevOf L k) else (0:Int))=waitAt L k:=by rw [HE.out];split <;> omega
 rw [hv]
 have b6:=((hb5.block p (by omega)).trans (hB1.block p hpW)).trans h6
 have b7:=((hb5.block q (by omega)).trans (hB1.block q hqW)).trans h7
 have bB:=hb5.block W.heap.size hz
 rw [hh1] at bB
 have own5:=(h8.below hB1 (Nat.le_refl _)).below hb5 (Nat.le_refl _)
 have z5:=hb5.size
 have B5:=(h1.trans (hB1.mono (by omega))).trans (hb5.mono (by omega))
 clear h6 h7 h8 c0 c1 c2 f0 f1 f2 e0 e1 e2 e3 e4 q1 q2 hW1 hb5 hB1 hh1 hv h1
 rename_i w5
 have d0:w5.frozen? ⟨p,0,none⟩=false:=by simp [World.frozen?,b6]
 have d1:w5.frozen? ⟨q,0,none⟩=false:=by simp [World.frozen?,b7]
 have d2:w5.frozen? ⟨q,1,none⟩=false:=by simp [World.frozen?,b7]
 have d3:w5.cell? ⟨W.heap.size,0,none⟩=some (.int .i64 (X L k)):=by simp [cell_of_row w5 W.heap.size 0 _ _ _ bB]
 have d4:w5.cell? ⟨W.heap.size,1,none⟩=some (.int .i64 (Y L k)):=by simp [cell_of_row w5 W.heap.size 1 _ _ _ bB]
 have d5:w5.cell? ⟨p,0,none⟩=some (.int .i64 (wv L k)):=by simp [cell_of_row w5 p 0 _ _ _ b6]
 have d6:w5.cell? ⟨q,0,none⟩=some (.int .i64 (prevOf L k)):=by simp [cell_of_row w5 q 0 _ _ _ b7]
 have d7:w5.cell? ⟨q,1,none⟩=some (.int .i64 (ay L k)):=by simp [cell_of_row w5 q 1 _ _ _ b7]
 have hpz:p≠W.heap.size:=by omega
 have hqz:q≠W.heap.size:=by omega
 have hpw:p < w5.heap.size:=by omega
 have hqw:q < w5.heap.size:=by omega
 have own6:IO (((w5.setCell ⟨p,0,none⟩ (.int .i64 (waitAt L k))).setCell ⟨q,0,none⟩ (.int .i64 (X L k))).setCell ⟨q,1,none⟩ (.int .i64 (Y L k))) b v (waitsTo L k) :=
  ((own5.setLow (by omega)).setLow (by omega)).setLow (by omega)
 have k6:(((w5.setCell ⟨p,0,none⟩ (.int .i64 (waitAt L k))).setCell ⟨q,0,none⟩ (.int .i64 (X L k))).setCell ⟨q,1,none⟩ (.int .i64 (Y L k))).heap[p]?=some (.cells #[.int .i64 (waitAt L k)] 3 (0,0)):=by
  rw [Below.heap_setCell _ _ _ _ (by simpa using hpq'),Below.heap_setCell _ _ _ _ (by simpa using hpq')]
  simp [World.setCell,Array.getElem?_modify,b6]
 have k7:(((w5.setCell ⟨p,0,none⟩ (.int .i64 (waitAt L k))).setCell ⟨q,0,none⟩ (.int .i64 (X L k))).setCell ⟨q,1,none⟩ (.int .i64 (Y L k))).heap[q]?=some (.cells #[.int .i64 (X L k),.int .i64 (Y L k)] 100 (0,0)):=by
  simp [World.setCell,Array.getElem?_modify,hpq',b7]
 have hlen:(waitsTo L k).length<=1000000000000:=by rw [waitsTo_len];omega
 clear hl8
 have hz6:(((w5.setCell ⟨p,0,none⟩ (.int .i64 (waitAt L k))).setCell ⟨q,0,none⟩ (.int .i64 (X L k))).setCell ⟨q,1,none⟩ (.int .i64 (Y L k))).heap.size=w5.heap.size:=by simp [World.setCell]
 have B6:Below B w5 (((w5.setCell ⟨p,0,none⟩ (.int .i64 (waitAt L k))).setCell ⟨q,0,none⟩ (.int .i64 (X L k))).setCell ⟨q,1,none⟩ (.int .i64 (Y L k))) :=
  (((Below.refl B w5).setCell (p:=⟨p,0,none⟩) h2 _).setCell (p:=⟨q,0,none⟩) (by show B<=q;omega) _).setCell (p:=⟨q,1,none⟩) (by show B<=q;omega) _
 have K6:=Lib.hid k6;have K7:=Lib.hid k7;have HB6:=Lib.hid B6;have HO:=Lib.hid own6;clear k6 k7 B6 own6 b6 b7 bB own5
 have hsm:b<=(((w5.setCell ⟨p,0,none⟩ (.int .i64 (waitAt L k))).setCell ⟨q,0,none⟩ (.int .i64 (X L k))).setCell ⟨q,1,none⟩ (.int .i64 (Y L k))).heap.size:=by rw [hz6];omega
 have HH:=Lib.hid (And.intro h2 (And.intro h3 (And.intro h4 (And.intro h5 (And.intro hz (And.intro z5 (And.intro B5 (And.intro hz6 (And.intro hlen hsm)))))))))
 clear hwv hbd g1 g2 g3 g4 HE h2 h3 h4 h5 hz z5 B5 hz6 hpW hqW hpw hqw h hlen hsm
 go_wp2_with (refine app_I ?_ (.tmp 17) (.tmp 19) ?_ b v (waitsTo L k) (waitAt L k) w5.heap.size ?_ ?_ ?_ ?_ ?_ ?_ ?_;rfl;rfl;rfl;exact (HO.out.alloc _);rfl;(rw [<- HH.out.2.2.2.2.2.2.2.1];exact heap_alloc_new _ _);exact HH.out.2.2.2.2.2.2.2.2.1;exact (Nat.le_trans HH.out.2.2.2.2.2.2.2.2.2 (by simp));intro g cap w7 hown7 hgr7 hb7)
 go_ret
 obtain ⟨h2,h3,h4,h5,hz,z5,B5,hz6,-,-⟩:=HH.out
 have hs7:=hb7.size
 have hs8:w5.heap.size < w7.heap.size:=by
  refine Nat.lt_of_lt_of_le ?_ hs7
  rw [<- hz6];simp
 have hBA:Below b (((w5.setCell ⟨p,0,none⟩ (.int .i64 (waitAt L k))).setCell ⟨q,0,none⟩ (.int .i64 (X L k))).setCell ⟨q,1,none⟩ (.int .i64 (Y L k))) w7:=(Below.alloc (Below.refl _ _) (by rw [hz6];omega) _).trans hb7
 exact ⟨_,rfl,(B5.trans HB6.out).trans (hBA.mono (by omega)),h2,h3,h4,by omega,(hBA.block p (by omega)).trans K6.out,(hBA.block q (by omega)).trans K7.out,by rw [waitsTo_succ];exact hown7⟩
end
section
attribute [local go_sem ↓] Go.wp_at_zero Go.wp_at_succ
theorem Z_waitsTo {L:List (Int×Int)} {n k:Nat} (h:k < n):Z (waitsTo L n) k=waitAt L k:=by simp [Z,waitsTo,h]
theorem Z_leavesTo {L:List (Int×Int)} {n k:Nat} (h:k < n):Z (leavesTo L n) k=leaveAt L k:=by simp [Z,leavesTo,h]
theorem Z_gapsTo {L:List (Int×Int)} {n k:Nat} (h:k < n - 1):Z (gapsTo L n) k=X L (k+1) - X L k:=by simp [Z,gapsTo,h]
theorem c_iWaitsOf (L:List (Int×Int)) (A:Option Addr) (c:Nat) (w:World) (hA:Cs w w.heap.size A L) (hn:L.length<=140737488351232) :
  Calls Tryz.prog 163 #[.slice A L.length c] w fun e w'=>∃ v,e=.returned v∧IO w' w.heap.size v (waits L)∧Below w.heap.size w w':=by
 by_cases h:cOk L=true
 ·have Hg:=Lib.hid (waits_yes h)
  have hlen:=cOk_len h
  have H:=Lib.hid h;clear h
  go_enter Tryz.func163,Tryz.ntmps163
  go_wp2_with fail
  refine (c_iCustomersOk L A c _ hA hn).mono ?_
  rintro e w1 ⟨rfl,hb1⟩
  rw [H.out]
  have hs1:=hb1.size
  go_wp2_with fail
  have hsz:(((w1.alloc (.cells #[.int .i64 0] 3)).alloc (.cells #[.int .i64 0,.int .i64 0] 100)).alloc (.cells #[] 3)).heap.size=w1.heap.size+3:=by simp
  have hW:Below w1.heap.size w1 (((w1.alloc (.cells #[.int .i64 0] 3)).alloc (.cells #[.int .i64 0,.int .i64 0] 100)).alloc (.cells #[] 3)):=by (repeat (first | exact rfl | exact Below.refl _ _ | (with_reducible refine Below.drew ?_) | (with_reducible refine Below.drewN ?_ _) | (with_reducible refine Below.alloc ?_ ?_ _) | (with_reducible refine Below.setCell ?_ ?_ _) | (show _<=_;focus (first | omega | (simp;done) | (simp;omega)))))
  have hI:WInv L w w.heap.size w1.heap.size (w1.heap.size+1) (w1.heap.size+2) 0 (.slice (some ⟨w1.heap.size+1+1,0,none⟩) 0 0) (((w1.alloc (.cells #[.int .i64 0] 3)).alloc (.cells #[.int .i64 0,.int .i64 0] 100)).alloc (.cells #[] 3)):=by
   refine ⟨hb1.trans (hW.mono hs1),hs1,by omega,by omega,by rw [hsz];omega,?_,?_,?_⟩
   ·rw [Below.heap_alloc _ _ _ (by simp;omega),Below.heap_alloc _ _ _ (by simp)]
    exact heap_alloc_new _ _
   ·rw [Below.heap_alloc _ _ _ (by simp)]
    have:=heap_alloc_new (w1.alloc (.cells #[.int .i64 0] 3)) (.cells #[.int .i64 0,.int .i64 0] 100)
    simpa [prevOf,ay] using this
   ·have:=IO.empty ((w1.alloc (.cells #[.int .i64 0] 3)).alloc (.cells #[.int .i64 0,.int .i64 0] 100)) (base:=w1.heap.size+2) (by simp)
    simpa [waitsTo] using this
  refine (c_foldCL (WInv L w w.heap.size w1.heap.size (w1.heap.size+1) (w1.heap.size+2)) #[.pointer (some ⟨w1.heap.size,0,none⟩),.pointer (some ⟨w1.heap.size+1,0,none⟩)] w.heap.size L A c _ w _ hA hn (fun k v W W' h1 h2=>h1.keep h2) (fun k v W h1=>h1.below) (fun k v W hk h1=>c_waitStep L H.out w W _ _ _ _ k v hk h1) hI).mono ?_
  rintro e w2 ⟨v,rfl,hI2⟩
  go_wp2_with fail
  go_ret
  exact ⟨_,rfl,by rw [Hg.out];exact hI2.own.mono (by omega),hI2.below⟩
 ·have hno:cOk L=false:=by simpa using h
  have Hg:=Lib.hid (waits_no hno)
  have H:=Lib.hid hno;clear h hno
  go_enter Tryz.func163,Tryz.ntmps163
  go_wp2_with fail
  refine (c_iCustomersOk L A c _ hA hn).mono ?_
  rintro e w1 ⟨rfl,hb1⟩
  rw [H.out]
  go_wp2_with fail
  go_ret
  exact ⟨_,rfl,by rw [Hg.out];exact IO.nil _ _,hb1⟩
theorem c_sWaitsOf (L:List (Int×Int)) (A:Option Addr) (c:Nat) (w:World) (hA:Cs w w.heap.size A L) (hn:L.length<=140737488351232) :
  Calls Tryz.prog 67 #[.slice A L.length c] w fun e w'=>∃ v,e=.returned v∧IO w' w.heap.size v (waits L)∧Below w.heap.size w w':=by
 by_cases h:cOk L=true
 ·have Hg:=Lib.hid (waits_yes h)
  have Hgg:=Lib.hid (gaps_yes h)
  have Hbd:=Lib.hid (fun k=>@cOk_bd L k h)
  have Hwb:=Lib.hid (waitAt_bd h)
  have hlen:=cOk_len h
  have H:=Lib.hid h;clear h
  go_enter Tryz.func67,Tryz.ntmps67
  go_wp2_with fail
  have hb0:Below w.heap.size w (w.alloc (.cells #[] 3)):=by (repeat (first | exact rfl | exact Below.refl _ _ | (with_reducible refine Below.drew ?_) | (with_reducible refine Below.drewN ?_ _) | (with_reducible refine Below.alloc ?_ ?_ _) | (with_reducible refine Below.setCell ?_ ?_ _) | (show _<=_;focus (first | omega | (simp;done) | (simp;omega)))))
  refine (c_sGapsOf L A c _ ((hA.below hb0).more hb0.size) hn).mono ?_
  rintro e w1 ⟨v1,rfl,o1,hb1⟩
  rw [Hgg.out] at o1
  obtain ⟨G,g,rfl,-,hG⟩:=o1.formG
  have hbx:=hb0.trans (hb1.mono hb0.size)
  have hsx:w.heap.size < w1.heap.size:=by have:=hb1.size;simp at this;omega
  have own0:IO w1 w.heap.size (.slice (some ⟨w.heap.size,0,none⟩) 0 0) []:=(IO.empty w (Nat.le_refl _)).below hb1 (Nat.le_refl _)
  have hgl:(gapsTo L L.length).length=L.length - 1:=gapsTo_len _ _
  rw [hgl] at hG ⊢
  have HG:=Lib.hid hG
  clear o1 hb0 hb1 hG hgl
  go_wp2_with fail
  go_loopw [3,5] (fun o i wr=>∃ k:Nat,k<=L.length∧i=.int .i64 k∧IO wr w.heap.size o (waitsTo L k)∧Hid (Sep w.heap.size w1.heap.size o)∧Hid (Mid w.heap.size w1.heap.size w1 wr)∧w1.heap.size<=wr.heap.size∧Below w.heap.size w wr)
   (fun _ i _=>L.length - (intOf i).toNat)
  case atStart=>exact ⟨0,by omega,rfl,own0,Sep.lo _ _ _ _,Mid.refl _ _ _,Nat.le_refl _,hbx⟩
  case round =>
   obtain ⟨k,hk,rfl,hown,hsep,hmid,hz1,hb⟩:=hrel
   by_cases hlt:k < L.length
   ·have hsz:=hb.size
    go_wp2_with fail
    refine (c_sCustomersOk L A c _ ((hA.below hb).more hb.size) hn).mono ?_
    rintro e w5 ⟨rfl,hb5⟩
    rw [H.out]
    have hb7:Below w.heap.size w w5:=hb.trans (hb5.mono hsz)
    have hmid5:=Lib.hid (hmid.out.below hb5 hz1)
    have hown5:=hown.below hb5 (Nat.le_refl _)
    have hz5:=hb5.size
    have q5:(waitsTo L k).length<=1000000000000:=by rw [waitsTo_len];omega
    clear hmid hown hb5
    by_cases hk0:k=0
    ·subst hk0
     have hkb:(((0:Nat):Int) == 0)=true:=rfl
     have hq1:w.heap.size<=w5.heap.size:=by omega
     have hq2:w1.heap.size<=w5.heap.size:=by omega
     have HQ:=Lib.hid (And.intro hq1 hq2)
     clear hq1 hq2
     go_wp2_with (refine app_IS ?_ (.tmp 21) (.tmp 22) ?_ w.heap.size u3 (waitsTo L 0) 0 w5.heap.size ?_ ?_ ?_ ?_ ?_ ?_ w.heap.size w1.heap.size w1 ?_ ?_ ?_ ?_;rfl;rfl;rfl;exact (hown5.alloc _);rfl;exact (heap_alloc_new _ _);exact q5;exact (Nat.le_trans HQ.out.1 (by simp));exact hsep.out;exact (hmid5.out.below (Below.alloc (Below.refl w5.heap.size _) (Nat.le_refl _) _) HQ.out.2);exact (Nat.le_trans HQ.out.2 (by simp));intro g7 cap w7 hown7 hb70 hsep7 hmid7)
     have hz7:=hb70.size
     go_roundw
     case rel =>
      refine ⟨1,by omega,by go_num,by rw [waitsTo_succ];exact hown7,hsep7,hmid7,?_,?_⟩
      ·simp at hz7;omega
      ·refine Below.trans ?_ hb70
       (repeat (first | exact hb7 | exact Below.refl _ _ | (with_reducible refine Below.drew ?_) | (with_reducible refine Below.drewN ?_ _) | (with_reducible refine Below.alloc ?_ ?_ _) | (with_reducible refine Below.setCell ?_ ?_ _) | (show _<=_;focus (first | omega | (simp;done) | (simp;omega)))))
     case measure=>simp [intOf];omega
    ·have hk1:1<=k:=by omega
     have hkb:((k:Int) == 0)=false:=beq_eq_false_iff_ne.2 (by omega)
     obtain ⟨b,off,rfl,hlb,hc⟩:=hA (by omega)
     have c1:=(hb7.cell (p:=⟨b,off+(k - 1) * 2+1,none⟩) hlb).trans (hc (k - 1) (by omega)).2
     clear hc
     obtain ⟨O,oc,rfl,-,hO⟩:=hown5.formG
     rw [waitsTo_len] at hO hown5 hsep ⊢
     obtain ⟨ob,rfl,-,hob,hoc⟩:=hO (by omega)
     have c2:=hoc (k - 1) (by omega)
     rw [Z_waitsTo (by omega)] at c2
     obtain ⟨gb,rfl,hgb1,hgb2,hgc⟩:=HG.out (by omega)
     have c3:w5.cell? ⟨gb,k - 1,none⟩=some (.int .i64 (X L k - X L (k - 1))):=by
      have hgb:w.heap.size < gb:=by simp at hgb1;omega
      rw [hmid5.out.cell hgb hgb2,hgc (k - 1) (by omega),Z_gapsTo (by omega),show k - 1+1=k by omega]
     clear hO hoc hgc
     have bd1:=Hbd.out k (by omega)
     have bd2:=Hbd.out (k - 1) (by omega)
     have bw:=Hwb.out (k - 1) (by omega)
     have hwq:waitAt L k=max (waitAt L (k - 1)+Y L (k - 1) - (X L k - X L (k - 1))) 0:=by
      obtain ⟨j,rfl⟩:∃ j,k=j+1:=⟨k - 1,by omega⟩
      simp only [waitAt,Nat.add_sub_cancel]
     have HWQ:=Lib.hid hwq
     clear hwq
     go_wp2_with fail
     have k1:(0:Int)<=(k:Int) - 1:=by omega
     have k2:(k:Int) - 1 < (k:Int):=by omega
     have k3:(k:Int) - 1 < (L.length:Int):=by omega
     have k4:(k:Int) - 1 < ((L.length - 1:Nat):Int):=by omega
     have k5:(1:Int)<=(k:Int):=by omega
     have hlw:b < w5.heap.size:=by omega
     have hgw:gb < w5.heap.size:=by omega
     have hz5':w1.heap.size<=w5.heap.size:=by omega
     have hz5'':w.heap.size<=w5.heap.size:=by omega
     have hgbs:w.heap.size < gb:=by simp at hgb1;omega
     have q6:((k:Int) - 1).toNat=k - 1:=by omega
     have q7:IntKind.i64.wrap ((k:Int) - 1)=(k:Int) - 1:=IntWalk.i64_in _ (by omega)
     have q8:IntKind.i64.wrap (waitAt L (k - 1)+Y L (k - 1))=waitAt L (k - 1)+Y L (k - 1):=IntWalk.i64_in _ (by omega)
     have q9:IntKind.i64.wrap (waitAt L (k - 1)+Y L (k - 1) - (X L k - X L (k - 1)))=waitAt L (k - 1)+Y L (k - 1) - (X L k - X L (k - 1)):=IntWalk.i64_in _ (by omega)
     have HU:=Lib.hid (And.intro q5 (And.intro hz5' (And.intro hz5'' (And.intro hgbs hgb2))))
     clear q5 hz5' hz5'' hgbs hgb1 hgb2 hz5 hsz hz1 bd1 bd2 bw hlen
     go_region_held3 (fun w'=>w'.cell? ⟨b,off+(k - 1) * 2+1,none⟩=some (.int .i64 (Y L (k - 1)))∧w'.cell? ⟨ob,k - 1,none⟩=some (.int .i64 (waitAt L (k - 1)))∧w'.cell? ⟨gb,k - 1,none⟩=some (.int .i64 (X L k - X L (k - 1))))
      (first
        | go_keep
        | exact ⟨(hb70.cell (p:=⟨b,_,none⟩) hlb).trans ((((Below.refl _ _).alloc (Nat.le_refl _) _).cell (p:=⟨b,_,none⟩) hlw).trans c1),(hkeep _ rfl _ (by rw [waitsTo_len];omega)).trans ((((Below.refl _ _).alloc (Nat.le_refl _) _).cell (p:=⟨ob,_,none⟩) hob).trans c2),(hmid7.cell HU.out.2.2.2.1 HU.out.2.2.2.2).trans ((hmid5.out.cell HU.out.2.2.2.1 HU.out.2.2.2.2).symm.trans c3)⟩)
      ((refine step_ISK ?_ (.tmp 24) (.tmp 44) ?_ w.heap.size (.slice (some ⟨ob,0,none⟩) k oc) (waitsTo L k) (if waitAt L (k - 1)+Y L (k - 1) - (X L k - X L (k - 1)) < 0 then 0 else waitAt L (k - 1)+Y L (k - 1) - (X L k - X L (k - 1))) w5.heap.size ?_ ?_ ?_ ?_ ?_ ?_ w.heap.size w1.heap.size w1 ?_ ?_ ?_ ?_;rfl;rfl;rfl;exact ((hown5.alloc _).drew);rfl;exact (heap_alloc_new _ _);exact HU.out.1;exact (Nat.le_trans HU.out.2.2.1 (by simp));exact hsep.out;exact (hmid5.out.below (Below.alloc (Below.refl w5.heap.size _).drew (Nat.le_refl _) _) HU.out.2.1);exact (Nat.le_trans HU.out.2.1 (by simp));intro g7 cap w7 hown7 hb70 hsep7 hmid7 hkeep))
     clear q6 q7 q8 q9
     have hy:(if waitAt L (k - 1)+Y L (k - 1) - (X L k - X L (k - 1)) < 0 then 0 else waitAt L (k - 1)+Y L (k - 1) - (X L k - X L (k - 1)))=waitAt L k:=by rw [HWQ.out];split <;> omega
     rw [hy] at hown7
     clear hy
     have hz7:=hb70.size
     go_wp2_with fail
     go_roundw
     case rel =>
      refine ⟨k+1,by omega,by go_num,by rw [waitsTo_succ];exact hown7,hsep7,hmid7,?_,?_⟩
      ·have:=HU.out.2.1
       simp at hz7;omega
      ·refine Below.trans ?_ hb70
       have:=HU.out.2.2.1
       (repeat (first | exact hb7 | exact Below.refl _ _ | (with_reducible refine Below.drew ?_) | (with_reducible refine Below.drewN ?_ _) | (with_reducible refine Below.alloc ?_ ?_ _) | (with_reducible refine Below.setCell ?_ ?_ _) | (show _<=_;focus (first | omega | (simp;done) | (simp;omega)))))
     case measure=>simp [intOf];omega
   ·go_wp2_with fail
    go_ret
    refine ⟨_,rfl,?_,hb⟩
    rw [Hg.out,show L.length=k by omega]
    exact hown
 ·have hno:cOk L=false:=by simpa using h
  have Hg:=Lib.hid (waits_no hno)
  have Hgg:=Lib.hid (gaps_no hno)
  have hp:0 < L.length:=by
   cases L with
   | nil=>exact absurd rfl h
   | cons _ _=>simp
  have H:=Lib.hid hno;clear h hno
  go_enter Tryz.func67,Tryz.ntmps67
  go_wp2_with fail
  have hb0:Below w.heap.size w (w.alloc (.cells #[] 3)):=by (repeat (first | exact rfl | exact Below.refl _ _ | (with_reducible refine Below.drew ?_) | (with_reducible refine Below.drewN ?_ _) | (with_reducible refine Below.alloc ?_ ?_ _) | (with_reducible refine Below.setCell ?_ ?_ _) | (show _<=_;focus (first | omega | (simp;done) | (simp;omega)))))
  refine (c_sGapsOf L A c _ ((hA.below hb0).more hb0.size) hn).mono ?_
  rintro e w1 ⟨v1,rfl,o1,hb1⟩
  have hbx:=hb0.trans (hb1.mono hb0.size)
  have own0:IO w1 w.heap.size (.slice (some ⟨w.heap.size,0,none⟩) 0 0) []:=(IO.empty w (Nat.le_refl _)).below hb1 (Nat.le_refl _)
  clear o1 hb0 hb1
  go_wp2_with fail
  refine wp_loop_rounds 1 ?_
  rw [rounds_succ]
  go_wp2_with fail
  refine (c_sCustomersOk L A c _ ((hA.below hbx).more hbx.size) hn).mono ?_
  rintro e w5 ⟨rfl,hb5⟩
  rw [H.out]
  go_wp2_with fail
  go_ret
  refine ⟨_,rfl,?_,hbx.trans (hb5.mono hbx.size)⟩
  rw [Hg.out]
  exact own0.below hb5 (Nat.le_refl _)
end
end Go.Proofs.YthpccmkagikhjaaGreatDoor

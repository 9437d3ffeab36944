import Derived.Test.YthpccmkagikhjaaGreatDoorQDeskLine2
import Derived.Test.YthpccmkagikhjaaGreatDoorQDeskLine7
import Derived.Test.YthpccmkagikhjaaGreatDoorQDeskLine18
import Derived.Test.YthpccmkagikhjaaGreatDoorQDeskLine25
import Derived.ProofKit
import Derived.OpenShut
namespace Go.Proofs.YthpccmkagikhjaaGreatDoor
set_option linter.unusedVariables false
open Go.RowKit
set_option maxRecDepth 8000
set_option maxHeartbeats 16000000
section
attribute [local go_sem ↓] Go.wp_at_zero Go.wp_at_succ
theorem row9 {w:World} {b y:Nat} (h:w.heap[b]?=some (.cells #[.string { data:=#[109,97,110,121] },.string { data:=#[119,97,105,116,115] },.string { data:=#[108,101,97,118,101,115] },.string { data:=#[108,97,115,116] },.string { data:=#[114,111,117,110,100,115] },.string { data:=#[98,117,115,121] },.string { data:=#[110,101,101,100] },.string { data:=#[108,101,97,115,116] },.string { data:=#[105,100,108,101] }] 9 (0,0))) (hy:y < 9):∃ l:List UInt8,l.length<=20∧w.cell? ⟨b,y,none⟩=some (.string (bs l)):=by
 have c:=fun o=>cell_of_row w b o _ _ _ h
 match y,hy with
 | 0,_=>exact ⟨[109,97,110,121],by simp,c 0⟩
 | 1,_=>exact ⟨[119,97,105,116,115],by simp,c 1⟩
 | 2,_=>exact ⟨[108,101,97,118,101,115],by simp,c 2⟩
 | 3,_=>exact ⟨[108,97,115,116],by simp,c 3⟩
 | 4,_=>exact ⟨[114,111,117,110,100,115],by simp,c 4⟩
 | 5,_=>exact ⟨[98,117,115,121],by simp,c 5⟩
 | 6,_=>exact ⟨[110,101,101,100],by simp,c 6⟩
 | 7,_=>exact ⟨[108,101,97,115,116],by simp,c 7⟩
 | 8,_=>exact ⟨[105,100,108,101],by simp,c 8⟩
theorem row15 {w:World} {b y:Nat} (h:w.heap[b]?=some (.cells #[.string { data:=#[] },.string { data:=#[99,111,109,101] },.string { data:=#[99,111,109,101,32,49] },.string { data:=#[99,111,109,101,32,48,32,49,48] },.string { data:=#[110,101,101,100,32,120] },.string { data:=#[108,97,116,101,114,32,48] },.string { data:=#[119,111,114,107] },.string { data:=#[119,111,114,107,32,50,48,49] },.string { data:=#[111,114,100,101,114,32,52] },.string { data:=#[115,117,109,32,52] },.string { data:=#[98,101,115,105,100,101,32,48] },.string { data:=#[98,101,115,105,100,101,32,53] },.string { data:=#[32,109,97,110,121] },.string { data:=#[103,111,32,48] },.string { data:=#[115,117,109,32,120] }] 9 (0,0))) (hy:y < 15):∃ l:List UInt8,l.length<=20∧w.cell? ⟨b,y,none⟩=some (.string (bs l)):=by
 have c:=fun o=>cell_of_row w b o _ _ _ h
 match y,hy with
 | 0,_=>exact ⟨[],by simp,c 0⟩
 | 1,_=>exact ⟨[99,111,109,101],by simp,c 1⟩
 | 2,_=>exact ⟨[99,111,109,101,32,49],by simp,c 2⟩
 | 3,_=>exact ⟨[99,111,109,101,32,48,32,49,48],by simp,c 3⟩
 | 4,_=>exact ⟨[110,101,101,100,32,120],by simp,c 4⟩
 | 5,_=>exact ⟨[108,97,116,101,114,32,48],by simp,c 5⟩
 | 6,_=>exact ⟨[119,111,114,107],by simp,c 6⟩
 | 7,_=>exact ⟨[119,111,114,107,32,50,48,49],by simp,c 7⟩
 | 8,_=>exact ⟨[111,114,100,101,114,32,52],by simp,c 8⟩
 | 9,_=>exact ⟨[115,117,109,32,52],by simp,c 9⟩
 | 10,_=>exact ⟨[98,101,115,105,100,101,32,48],by simp,c 10⟩
 | 11,_=>exact ⟨[98,101,115,105,100,101,32,53],by simp,c 11⟩
 | 12,_=>exact ⟨[32,109,97,110,121],by simp,c 12⟩
 | 13,_=>exact ⟨[103,111,32,48],by simp,c 13⟩
 | 14,_=>exact ⟨[115,117,109,32,120],by simp,c 14⟩
theorem row4 {w:World} {b y:Nat} (h:w.heap[b]?=some (.cells #[.string { data:=#[119,111,114,107,32] },.string { data:=#[111,114,100,101,114,32] },.string { data:=#[115,117,109,32] },.string { data:=#[98,101,115,105,100,101,32] }] 9 (0,0))) (hy:y < 4):∃ l:List UInt8,l.length<=20∧w.cell? ⟨b,y,none⟩=some (.string (bs l)):=by
 have c:=fun o=>cell_of_row w b o _ _ _ h
 match y,hy with
 | 0,_=>exact ⟨[119,111,114,107,32],by simp,c 0⟩
 | 1,_=>exact ⟨[111,114,100,101,114,32],by simp,c 1⟩
 | 2,_=>exact ⟨[115,117,109,32],by simp,c 2⟩
 | 3,_=>exact ⟨[98,101,115,105,100,101,32],by simp,c 3⟩
theorem c_l20Line (base r p:Nat) (L:List (Int×Int)) (A:Option Addr) (c:Nat) (w:World) (h:Rd w base r p) (hp:p<=800000000) (hL:L.length<=1000) (hbd:bdX L)
  (hA:∀ W,w.grownBy W (some r)->Cs W W.heap.size A L) :
  Calls Tryz.prog 62 #[.pointer (some ⟨r,0,none⟩),.slice A L.length c] w fun e w'=>∃ l:List UInt8,e=.returned (.string (bs l))∧l.length<=40∧w.grownBy w' (some r)∧∃ p',p'<=p+20∧Rd w' base r p':=by
 have hrw:=h.2.1
 have hbr:=h.1
 have HA:=Lib.hid hA
 clear hA
 go_enter Tryz.func62,Tryz.ntmps62
 go_wp2_with fail
 ((with_reducible refine (c_pickI base r p 7 _ h (by omega) (by omega) (by omega)).mono ?_))
 rintro e w1 ⟨x,hx,rfl,hg1,hr1⟩
 have hs1:=hg1.size
 by_cases h0:x=0∨x=1∨x=2
 ·obtain ⟨w2,hw2⟩:∃ z,w1.alloc (.cells #[.string { data:=#[109,97,110,121] },.string { data:=#[119,97,105,116,115] },.string { data:=#[108,101,97,118,101,115] },.string { data:=#[108,97,115,116] },.string { data:=#[114,111,117,110,100,115] },.string { data:=#[98,117,115,121] },.string { data:=#[110,101,101,100] },.string { data:=#[108,101,97,115,116] },.string { data:=#[105,100,108,101] }] 9)=z:=⟨_,rfl⟩
  have hb2:Below w1.heap.size w1 w2:=by rw [<- hw2];exact (Below.refl _ _).alloc (Nat.le_refl _) _
  have bn:w2.heap[w1.heap.size]?=some (.cells #[.string { data:=#[109,97,110,121] },.string { data:=#[119,97,105,116,115] },.string { data:=#[108,101,97,118,101,115] },.string { data:=#[108,97,115,116] },.string { data:=#[114,111,117,110,100,115] },.string { data:=#[98,117,115,121] },.string { data:=#[110,101,101,100] },.string { data:=#[108,101,97,115,116] },.string { data:=#[105,100,108,101] }] 9 (0,0)):=by rw [<- hw2];exact heap_alloc_new _ _
  have r2:=hr1.keepB hb2 (by have:=hr1.2.1;omega) (by have:=hr1.2.1;omega)
  have g2:=grown_thenB hg1 (hb2.mono hs1)
  have hz2:w1.heap.size < w2.heap.size:=by rw [<- hw2];simp
  have hrl:=hr1.2.1
  have HP:=Lib.hid (c_pickI base r (p+1) 9 w2 r2 (by omega) (by omega) (by omega))
  have HFin:Hid (∀ (w3:World) (y:Nat),(y:Int) < 9->w2.grownBy w3 (some r)->∃ l:List UInt8,l.length<=20∧w3.cell? ⟨w1.heap.size,y,none⟩=some (.string (bs l))):=Lib.hid (fun w3 y hy hg=>row9 ((hg.block w1.heap.size hz2 (by simp;omega)).trans bn) (by omega))
  clear bn hb2 r2
  rcases h0 with rfl | rfl | rfl
  all_goals
   go_wp2_with fail
   refine HP.out.mono ?_
   rintro e w3 ⟨y,hy,rfl,hg3,hr3⟩
   obtain ⟨l,hl,hc⟩:=HFin.out w3 y hy hg3
   have p1:(0:Int)<=(y:Int):=by omega
   have g3:=g2.trans hg3
   clear hw2
   go_wp2_with fail
   go_ret
   exact ⟨l,rfl,by omega,g3,_,by omega,hr3⟩
 ·have d0:((x:Int) == 0)=false:=beq_eq_false_iff_ne.2 (by omega)
  have d1:((x:Int) == 1)=false:=beq_eq_false_iff_ne.2 (by omega)
  have d2:((x:Int) == 2)=false:=beq_eq_false_iff_ne.2 (by omega)
  by_cases h3:x=3
  ·have d3:((x:Int) == 3)=true:=beq_iff_eq.2 (by omega)
   obtain ⟨w2,hw2⟩:∃ z,w1.alloc (.cells #[.string { data:=#[] },.string { data:=#[99,111,109,101] },.string { data:=#[99,111,109,101,32,49] },.string { data:=#[99,111,109,101,32,48,32,49,48] },.string { data:=#[110,101,101,100,32,120] },.string { data:=#[108,97,116,101,114,32,48] },.string { data:=#[119,111,114,107] },.string { data:=#[119,111,114,107,32,50,48,49] },.string { data:=#[111,114,100,101,114,32,52] },.string { data:=#[115,117,109,32,52] },.string { data:=#[98,101,115,105,100,101,32,48] },.string { data:=#[98,101,115,105,100,101,32,53] },.string { data:=#[32,109,97,110,121] },.string { data:=#[103,111,32,48] },.string { data:=#[115,117,109,32,120] }] 9)=z:=⟨_,rfl⟩
   have hb2:Below w1.heap.size w1 w2:=by rw [<- hw2];exact (Below.refl _ _).alloc (Nat.le_refl _) _
   have bn:w2.heap[w1.heap.size]?=some (.cells #[.string { data:=#[] },.string { data:=#[99,111,109,101] },.string { data:=#[99,111,109,101,32,49] },.string { data:=#[99,111,109,101,32,48,32,49,48] },.string { data:=#[110,101,101,100,32,120] },.string { data:=#[108,97,116,101,114,32,48] },.string { data:=#[119,111,114,107] },.string { data:=#[119,111,114,107,32,50,48,49] },.string { data:=#[111,114,100,101,114,32,52] },.string { data:=#[115,117,109,32,52] },.string { data:=#[98,101,115,105,100,101,32,48] },.string { data:=#[98,101,115,105,100,101,32,53] },.string { data:=#[32,109,97,110,121] },.string { data:=#[103,111,32,48] },.string { data:=#[115,117,109,32,120] }] 9 (0,0)):=by rw [<- hw2];exact heap_alloc_new _ _
   have r2:=hr1.keepB hb2 (by have:=hr1.2.1;omega) (by have:=hr1.2.1;omega)
   have g2:=grown_thenB hg1 (hb2.mono hs1)
   have hz2:w1.heap.size < w2.heap.size:=by rw [<- hw2];simp
   have hrl:=hr1.2.1
   have HP:=Lib.hid (c_pickI base r (p+1) 15 w2 r2 (by omega) (by omega) (by omega))
   have HFin:Hid (∀ (w3:World) (y:Nat),(y:Int) < 15->w2.grownBy w3 (some r)->∃ l:List UInt8,l.length<=20∧w3.cell? ⟨w1.heap.size,y,none⟩=some (.string (bs l))):=Lib.hid (fun w3 y hy hg=>row15 ((hg.block w1.heap.size hz2 (by simp;omega)).trans bn) (by omega))
   clear bn hb2 r2 h0 h3
   go_wp2_with fail
   refine HP.out.mono ?_
   rintro e w3 ⟨y,hy,rfl,hg3,hr3⟩
   obtain ⟨l,hl,hc⟩:=HFin.out w3 y hy hg3
   have p1:(0:Int)<=(y:Int):=by omega
   have g3:=g2.trans hg3
   clear hw2
   go_wp2_with fail
   go_ret
   exact ⟨l,rfl,by omega,g3,_,by omega,hr3⟩
  ·have d3:((x:Int) == 3)=false:=beq_eq_false_iff_ne.2 (by omega)
   by_cases h4:x=4
   ·have d4:((x:Int) == 4)=true:=beq_iff_eq.2 (by omega)
    clear h0 h3 h4
    go_wp2_with fail
    refine wp_region_any (by kernel_rfl) ?_
    change wpAny _ _ _ _ _ _ _ (World.drew _)
    obtain ⟨V0,hV0⟩:∃ z,w1.drew=z:=⟨_,rfl⟩
    have rdV0:Rd V0 base r (p+1):=by rw [<- hV0];exact hr1
    have gV0:w.grownBy V0 (some r):=by rw [<- hV0];exact grown_thenB hg1 (Below.refl _ w1).drew
    have rd0:r < V0.heap.size∧True:=⟨rdV0.2.1,trivial⟩
    rw [hV0]
    clear hV0
    refine wpAny_take (i:=1) (v:=?_) rfl (by kernel_rfl) (by kernel_rfl) (by kernel_rfl) (fun _ _ _ h=>h) (Or.inl ⟨?_,?_⟩) ?_
    rotate_left
    ·go_simp
    ·(intro w;go_simp) <;> (with_reducible rfl)
    refine wpAny_take (i:=5) (v:=?_) rfl (by kernel_rfl) (by kernel_rfl) (by kernel_rfl) (fun _ _ _ h=>h) (Or.inl ⟨?_,?_⟩) ?_
    rotate_left
    ·go_simp
    ·(intro w;go_simp) <;> (with_reducible rfl)
    refine wpAny_ready (rs:=[0,2]) (by kernel_rfl) (by simp) ?_
    refine AllReady.cons rfl (fun K hK=>?_) (AllReady.cons rfl (fun K hK=>?_) (AllReady.nil))
    ·obtain ⟨V1,hV1⟩:∃ z,V0.alloc (.cells #[.string { data:=#[119,111,114,107,32] },.string { data:=#[111,114,100,101,114,32] },.string { data:=#[115,117,109,32] },.string { data:=#[98,101,115,105,100,101,32] }] 9)=z:=⟨_,rfl⟩
     have bV1:V1.heap[V0.heap.size]?=some (.cells #[.string { data:=#[119,111,114,107,32] },.string { data:=#[111,114,100,101,114,32] },.string { data:=#[115,117,109,32] },.string { data:=#[98,101,115,105,100,101,32] }] 9 (0,0)):=by rw [<- hV1];exact heap_alloc_new _ _
     have hbV1:Below V0.heap.size V0 V1:=by rw [<- hV1];exact (Below.refl _ _).alloc (Nat.le_refl _) _
     have rdV1:=rdV0.keepB hbV1 (by have:=rdV0.2.1;omega) (by have:=rdV0.2.1;omega)
     have gV1:=grown_thenB gV0 (hbV1.mono gV0.size)
     have hzV1:V0.heap.size < V1.heap.size:=by rw [<- hV1];simp
     go_simp
     try rw [hV1]
     refine hK _ _ ?_
     clear hK K
     try rw [hV1]
     clear hV1
     refine wpAny_ready (rs:=[2]) (by kernel_rfl) (by simp) ?_
     refine AllReady.cons rfl (fun K hK=>?_) AllReady.nil
     go_simp
     go_wp2_with (go_at_call 41;refine (c_pickI base r (p+1) 4 V1 rdV1 (by omega) (by omega) (by omega)).mono ?_;rintro e V2 ⟨y4,hy4,rfl,kV2,rdV2⟩)
     first | (refine hK _ _ ?_;clear hK K) | skip
     have gV2:=gV1.trans kV2
     have py40:(0:Int)<=(y4:Int):=by omega
     have py41:(y4:Int) < 4:=by omega
     have bV2:=(kV2.block (V0.heap.size) hzV1 (by have:=rdV0.2.1;simp;omega)).trans bV1
     have hzV2:V0.heap.size < V2.heap.size:=by have:=kV2.size;omega
     refine wpAny_take (i:=3) (v:=?_) rfl (by kernel_rfl) (by kernel_rfl) (by kernel_rfl) (fun _ _ _ h=>h) (Or.inl ⟨?_,?_⟩) ?_
     rotate_left
     ·go_simp
     ·(intro w;go_simp) <;> (with_reducible rfl)
     refine wpAny_ready (rs:=[4,6]) (by kernel_rfl) (by simp) ?_
     refine AllReady.cons rfl (fun K hK=>?_) (AllReady.cons rfl (fun K hK=>?_) (AllReady.nil))
     ·obtain ⟨l4,hl4,hc4⟩:=row4 bV2 (show y4 < 4 by omega)
      go_simp
      refine hK _ _ ?_
      clear hK K
      refine wpAny_ready (rs:=[6]) (by kernel_rfl) (by simp) ?_
      refine AllReady.cons rfl (fun K hK=>?_) AllReady.nil
      go_simp
      go_wp2_with (go_at_call 41;refine (c_pickI base r (p+1+1) 5 V2 rdV2 (by omega) (by omega) (by omega)).mono ?_;rintro e V4 ⟨y5,hy5,rfl,kV4,rdV4⟩)
      first | (refine hK _ _ ?_;clear hK K) | skip
      have gV4:=gV2.trans kV4
      have py50:(0:Int)<=(y5:Int):=by omega
      have py51:(y5:Int) < 5:=by omega
      have bV4:=(kV4.block (V0.heap.size) hzV2 (by have:=rdV0.2.1;simp;omega)).trans bV2
      have hzV4:V0.heap.size < V4.heap.size:=by have:=kV4.size;omega
      refine wpAny_ready (rs:=[7]) (by kernel_rfl) (by simp) ?_
      refine AllReady.cons rfl (fun K hK=>?_) AllReady.nil
      go_simp
      go_wp2_with (go_at_call 65;refine (c_sNumber y5 V4 (by omega)).mono ?_;rintro e V5 ⟨rfl,hbV5⟩)
      first | (refine hK _ _ ?_;clear hK K) | skip
      have rdV5:=rdV4.keepB hbV5 (by have:=rdV4.2.1;omega) (by have:=rdV4.2.1;omega)
      have gV5:=grown_thenB gV4 (hbV5.mono gV4.size)
      have bV5:=(hbV5.block (V0.heap.size) hzV4).trans bV4
      have hzV5:V0.heap.size < V5.heap.size:=by have:=hbV5.size;omega
      have hn5:(numL y5).length<=2:=numL_len 1 y5 (by omega)
      have z8:¬ (9223372036854775807 < (bs l4).size+(bs (numL y5)).size):=by rw [bs_size,bs_size];omega
      refine wpAny_take (i:=8) (v:=?_) rfl (by kernel_rfl) (by kernel_rfl) (by kernel_rfl) (fun _ _ _ h=>h) (Or.inl ⟨?_,?_⟩) ?_
      rotate_left
      ·go_simp
      ·(intro w;go_simp) <;> (with_reducible rfl)
      refine wpAny_take (i:=9) (v:=?_) rfl (by kernel_rfl) (by kernel_rfl) (by kernel_rfl) (fun _ _ _ h=>h) (Or.inl ⟨?_,?_⟩) ?_
      rotate_left
      ·go_simp
      ·(intro w;go_simp) <;> (with_reducible rfl)
      refine wpAny_done (by kernel_rfl) ?_ _
      go_wp2_with fail
      go_ret
      exact ⟨l4++numL y5,by rw [<- bs_append];rfl,by rw [List.length_append];omega,gV5,_,by omega,rdV5⟩
     ·go_simp
      go_wp2_with (go_at_call 41;refine (c_pickI base r (p+1+1) 5 V2 rdV2 (by omega) (by omega) (by omega)).mono ?_;rintro e V6 ⟨y5,hy5,rfl,kV6,rdV6⟩)
      first | (refine hK _ _ ?_;clear hK K) | skip
      have gV6:=gV2.trans kV6
      have py50:(0:Int)<=(y5:Int):=by omega
      have py51:(y5:Int) < 5:=by omega
      have bV6:=(kV6.block (V0.heap.size) hzV2 (by have:=rdV0.2.1;simp;omega)).trans bV2
      have hzV6:V0.heap.size < V6.heap.size:=by have:=kV6.size;omega
      refine wpAny_ready (rs:=[4,7]) (by kernel_rfl) (by simp) ?_
      refine AllReady.cons rfl (fun K hK=>?_) (AllReady.cons rfl (fun K hK=>?_) (AllReady.nil))
      ·obtain ⟨l4,hl4,hc4⟩:=row4 bV6 (show y4 < 4 by omega)
       go_simp
       refine hK _ _ ?_
       clear hK K
       refine wpAny_ready (rs:=[7]) (by kernel_rfl) (by simp) ?_
       refine AllReady.cons rfl (fun K hK=>?_) AllReady.nil
       go_simp
       go_wp2_with (go_at_call 65;refine (c_sNumber y5 V6 (by omega)).mono ?_;rintro e V8 ⟨rfl,hbV8⟩)
       first | (refine hK _ _ ?_;clear hK K) | skip
       have rdV8:=rdV6.keepB hbV8 (by have:=rdV6.2.1;omega) (by have:=rdV6.2.1;omega)
       have gV8:=grown_thenB gV6 (hbV8.mono gV6.size)
       have bV8:=(hbV8.block (V0.heap.size) hzV6).trans bV6
       have hzV8:V0.heap.size < V8.heap.size:=by have:=hbV8.size;omega
       have hn5:(numL y5).length<=2:=numL_len 1 y5 (by omega)
       have z8:¬ (9223372036854775807 < (bs l4).size+(bs (numL y5)).size):=by rw [bs_size,bs_size];omega
       refine wpAny_take (i:=8) (v:=?_) rfl (by kernel_rfl) (by kernel_rfl) (by kernel_rfl) (fun _ _ _ h=>h) (Or.inl ⟨?_,?_⟩) ?_
       rotate_left
       ·go_simp
       ·(intro w;go_simp) <;> (with_reducible rfl)
       refine wpAny_take (i:=9) (v:=?_) rfl (by kernel_rfl) (by kernel_rfl) (by kernel_rfl) (fun _ _ _ h=>h) (Or.inl ⟨?_,?_⟩) ?_
       rotate_left
       ·go_simp
       ·(intro w;go_simp) <;> (with_reducible rfl)
       refine wpAny_done (by kernel_rfl) ?_ _
       go_wp2_with fail
       go_ret
       exact ⟨l4++numL y5,by rw [<- bs_append];rfl,by rw [List.length_append];omega,gV8,_,by omega,rdV8⟩
      ·go_simp
       go_wp2_with (go_at_call 65;refine (c_sNumber y5 V6 (by omega)).mono ?_;rintro e V9 ⟨rfl,hbV9⟩)
       first | (refine hK _ _ ?_;clear hK K) | skip
       have rdV9:=rdV6.keepB hbV9 (by have:=rdV6.2.1;omega) (by have:=rdV6.2.1;omega)
       have gV9:=grown_thenB gV6 (hbV9.mono gV6.size)
       have bV9:=(hbV9.block (V0.heap.size) hzV6).trans bV6
       have hzV9:V0.heap.size < V9.heap.size:=by have:=hbV9.size;omega
       refine wpAny_ready (rs:=[4]) (by kernel_rfl) (by simp) ?_
       refine AllReady.cons rfl (fun K hK=>?_) AllReady.nil
       obtain ⟨l4,hl4,hc4⟩:=row4 bV9 (show y4 < 4 by omega)
       go_simp
       refine hK _ _ ?_
       clear hK K
       have hn5:(numL y5).length<=2:=numL_len 1 y5 (by omega)
       have z8:¬ (9223372036854775807 < (bs l4).size+(bs (numL y5)).size):=by rw [bs_size,bs_size];omega
       refine wpAny_take (i:=8) (v:=?_) rfl (by kernel_rfl) (by kernel_rfl) (by kernel_rfl) (fun _ _ _ h=>h) (Or.inl ⟨?_,?_⟩) ?_
       rotate_left
       ·go_simp
       ·(intro w;go_simp) <;> (with_reducible rfl)
       refine wpAny_take (i:=9) (v:=?_) rfl (by kernel_rfl) (by kernel_rfl) (by kernel_rfl) (fun _ _ _ h=>h) (Or.inl ⟨?_,?_⟩) ?_
       rotate_left
       ·go_simp
       ·(intro w;go_simp) <;> (with_reducible rfl)
       refine wpAny_done (by kernel_rfl) ?_ _
       go_wp2_with fail
       go_ret
       exact ⟨l4++numL y5,by rw [<- bs_append];rfl,by rw [List.length_append];omega,gV9,_,by omega,rdV9⟩
    ·go_simp
     go_wp2_with (go_at_call 41;refine (c_pickI base r (p+1) 4 V0 rdV0 (by omega) (by omega) (by omega)).mono ?_;rintro e V11 ⟨y4,hy4,rfl,kV11,rdV11⟩)
     first | (refine hK _ _ ?_;clear hK K) | skip
     have gV11:=gV0.trans kV11
     have py40:(0:Int)<=(y4:Int):=by omega
     have py41:(y4:Int) < 4:=by omega
     refine wpAny_ready (rs:=[0,6]) (by kernel_rfl) (by simp) ?_
     refine AllReady.cons rfl (fun K hK=>?_) (AllReady.cons rfl (fun K hK=>?_) (AllReady.nil))
     ·obtain ⟨V12,hV12⟩:∃ z,V11.alloc (.cells #[.string { data:=#[119,111,114,107,32] },.string { data:=#[111,114,100,101,114,32] },.string { data:=#[115,117,109,32] },.string { data:=#[98,101,115,105,100,101,32] }] 9)=z:=⟨_,rfl⟩
      have bV12:V12.heap[V11.heap.size]?=some (.cells #[.string { data:=#[119,111,114,107,32] },.string { data:=#[111,114,100,101,114,32] },.string { data:=#[115,117,109,32] },.string { data:=#[98,101,115,105,100,101,32] }] 9 (0,0)):=by rw [<- hV12];exact heap_alloc_new _ _
      have hbV12:Below V11.heap.size V11 V12:=by rw [<- hV12];exact (Below.refl _ _).alloc (Nat.le_refl _) _
      have rdV12:=rdV11.keepB hbV12 (by have:=rdV11.2.1;omega) (by have:=rdV11.2.1;omega)
      have gV12:=grown_thenB gV11 (hbV12.mono gV11.size)
      have hzV12:V11.heap.size < V12.heap.size:=by rw [<- hV12];simp
      go_simp
      try rw [hV12]
      refine hK _ _ ?_
      clear hK K
      try rw [hV12]
      clear hV12
      refine wpAny_take (i:=3) (v:=?_) rfl (by kernel_rfl) (by kernel_rfl) (by kernel_rfl) (fun _ _ _ h=>h) (Or.inl ⟨?_,?_⟩) ?_
      rotate_left
      ·go_simp
      ·(intro w;go_simp) <;> (with_reducible rfl)
      refine wpAny_ready (rs:=[4,6]) (by kernel_rfl) (by simp) ?_
      refine AllReady.cons rfl (fun K hK=>?_) (AllReady.cons rfl (fun K hK=>?_) (AllReady.nil))
      ·obtain ⟨l4,hl4,hc4⟩:=row4 bV12 (show y4 < 4 by omega)
       go_simp
       refine hK _ _ ?_
       clear hK K
       refine wpAny_ready (rs:=[6]) (by kernel_rfl) (by simp) ?_
       refine AllReady.cons rfl (fun K hK=>?_) AllReady.nil
       go_simp
       go_wp2_with (go_at_call 41;refine (c_pickI base r (p+1+1) 5 V12 rdV12 (by omega) (by omega) (by omega)).mono ?_;rintro e V14 ⟨y5,hy5,rfl,kV14,rdV14⟩)
       first | (refine hK _ _ ?_;clear hK K) | skip
       have gV14:=gV12.trans kV14
       have py50:(0:Int)<=(y5:Int):=by omega
       have py51:(y5:Int) < 5:=by omega
       have bV14:=(kV14.block (V11.heap.size) hzV12 (by have:=rdV11.2.1;simp;omega)).trans bV12
       have hzV14:V11.heap.size < V14.heap.size:=by have:=kV14.size;omega
       refine wpAny_ready (rs:=[7]) (by kernel_rfl) (by simp) ?_
       refine AllReady.cons rfl (fun K hK=>?_) AllReady.nil
       go_simp
       go_wp2_with (go_at_call 65;refine (c_sNumber y5 V14 (by omega)).mono ?_;rintro e V15 ⟨rfl,hbV15⟩)
       first | (refine hK _ _ ?_;clear hK K) | skip
       have rdV15:=rdV14.keepB hbV15 (by have:=rdV14.2.1;omega) (by have:=rdV14.2.1;omega)
       have gV15:=grown_thenB gV14 (hbV15.mono gV14.size)
       have bV15:=(hbV15.block (V11.heap.size) hzV14).trans bV14
       have hzV15:V11.heap.size < V15.heap.size:=by have:=hbV15.size;omega
       have hn5:(numL y5).length<=2:=numL_len 1 y5 (by omega)
       have z8:¬ (9223372036854775807 < (bs l4).size+(bs (numL y5)).size):=by rw [bs_size,bs_size];omega
       refine wpAny_take (i:=8) (v:=?_) rfl (by kernel_rfl) (by kernel_rfl) (by kernel_rfl) (fun _ _ _ h=>h) (Or.inl ⟨?_,?_⟩) ?_
       rotate_left
       ·go_simp
       ·(intro w;go_simp) <;> (with_reducible rfl)
       refine wpAny_take (i:=9) (v:=?_) rfl (by kernel_rfl) (by kernel_rfl) (by kernel_rfl) (fun _ _ _ h=>h) (Or.inl ⟨?_,?_⟩) ?_
       rotate_left
       ·go_simp
       ·(intro w;go_simp) <;> (with_reducible rfl)
       refine wpAny_done (by kernel_rfl) ?_ _
       go_wp2_with fail
       go_ret
       exact ⟨l4++numL y5,by rw [<- bs_append];rfl,by rw [List.length_append];omega,gV15,_,by omega,rdV15⟩
      ·go_simp
       go_wp2_with (go_at_call 41;refine (c_pickI base r (p+1+1) 5 V12 rdV12 (by omega) (by omega) (by omega)).mono ?_;rintro e V16 ⟨y5,hy5,rfl,kV16,rdV16⟩)
       first | (refine hK _ _ ?_;clear hK K) | skip
       have gV16:=gV12.trans kV16
       have py50:(0:Int)<=(y5:Int):=by omega
       have py51:(y5:Int) < 5:=by omega
       have bV16:=(kV16.block (V11.heap.size) hzV12 (by have:=rdV11.2.1;simp;omega)).trans bV12
       have hzV16:V11.heap.size < V16.heap.size:=by have:=kV16.size;omega
       refine wpAny_ready (rs:=[4,7]) (by kernel_rfl) (by simp) ?_
       refine AllReady.cons rfl (fun K hK=>?_) (AllReady.cons rfl (fun K hK=>?_) (AllReady.nil))
       ·obtain ⟨l4,hl4,hc4⟩:=row4 bV16 (show y4 < 4 by omega)
        go_simp
        refine hK _ _ ?_
        clear hK K
        refine wpAny_ready (rs:=[7]) (by kernel_rfl) (by simp) ?_
        refine AllReady.cons rfl (fun K hK=>?_) AllReady.nil
        go_simp
        go_wp2_with (go_at_call 65;refine (c_sNumber y5 V16 (by omega)).mono ?_;rintro e V18 ⟨rfl,hbV18⟩)
        first | (refine hK _ _ ?_;clear hK K) | skip
        have rdV18:=rdV16.keepB hbV18 (by have:=rdV16.2.1;omega) (by have:=rdV16.2.1;omega)
        have gV18:=grown_thenB gV16 (hbV18.mono gV16.size)
        have bV18:=(hbV18.block (V11.heap.size) hzV16).trans bV16
        have hzV18:V11.heap.size < V18.heap.size:=by have:=hbV18.size;omega
        have hn5:(numL y5).length<=2:=numL_len 1 y5 (by omega)
        have z8:¬ (9223372036854775807 < (bs l4).size+(bs (numL y5)).size):=by rw [bs_size,bs_size];omega
        refine wpAny_take (i:=8) (v:=?_) rfl (by kernel_rfl) (by kernel_rfl) (by kernel_rfl) (fun _ _ _ h=>h) (Or.inl ⟨?_,?_⟩) ?_
        rotate_left
        ·go_simp
        ·(intro w;go_simp) <;> (with_reducible rfl)
        refine wpAny_take (i:=9) (v:=?_) rfl (by kernel_rfl) (by kernel_rfl) (by kernel_rfl) (fun _ _ _ h=>h) (Or.inl ⟨?_,?_⟩) ?_
        rotate_left
        ·go_simp
        ·(intro w;go_simp) <;> (with_reducible rfl)
        refine wpAny_done (by kernel_rfl) ?_ _
        go_wp2_with fail
        go_ret
        exact ⟨l4++numL y5,by rw [<- bs_append];rfl,by rw [List.length_append];omega,gV18,_,by omega,rdV18⟩
       ·go_simp
        go_wp2_with (go_at_call 65;refine (c_sNumber y5 V16 (by omega)).mono ?_;rintro e V19 ⟨rfl,hbV19⟩)
        first | (refine hK _ _ ?_;clear hK K) | skip
        have rdV19:=rdV16.keepB hbV19 (by have:=rdV16.2.1;omega) (by have:=rdV16.2.1;omega)
        have gV19:=grown_thenB gV16 (hbV19.mono gV16.size)
        have bV19:=(hbV19.block (V11.heap.size) hzV16).trans bV16
        have hzV19:V11.heap.size < V19.heap.size:=by have:=hbV19.size;omega
        refine wpAny_ready (rs:=[4]) (by kernel_rfl) (by simp) ?_
        refine AllReady.cons rfl (fun K hK=>?_) AllReady.nil
        obtain ⟨l4,hl4,hc4⟩:=row4 bV19 (show y4 < 4 by omega)
        go_simp
        refine hK _ _ ?_
        clear hK K
        have hn5:(numL y5).length<=2:=numL_len 1 y5 (by omega)
        have z8:¬ (9223372036854775807 < (bs l4).size+(bs (numL y5)).size):=by rw [bs_size,bs_size];omega
        refine wpAny_take (i:=8) (v:=?_) rfl (by kernel_rfl) (by kernel_rfl) (by kernel_rfl) (fun _ _ _ h=>h) (Or.inl ⟨?_,?_⟩) ?_
        rotate_left
        ·go_simp
        ·(intro w;go_simp) <;> (with_reducible rfl)
        refine wpAny_take (i:=9) (v:=?_) rfl (by kernel_rfl) (by kernel_rfl) (by kernel_rfl) (fun _ _ _ h=>h) (Or.inl ⟨?_,?_⟩) ?_
        rotate_left
        ·go_simp
        ·(intro w;go_simp) <;> (with_reducible rfl)
        refine wpAny_done (by kernel_rfl) ?_ _
        go_wp2_with fail
        go_ret
        exact ⟨l4++numL y5,by rw [<- bs_append];rfl,by rw [List.length_append];omega,gV19,_,by omega,rdV19⟩
     ·go_simp
      go_wp2_with (go_at_call 41;refine (c_pickI base r (p+1+1) 5 V11 rdV11 (by omega) (by omega) (by omega)).mono ?_;rintro e V21 ⟨y5,hy5,rfl,kV21,rdV21⟩)
      first | (refine hK _ _ ?_;clear hK K) | skip
      have gV21:=gV11.trans kV21
      have py50:(0:Int)<=(y5:Int):=by omega
      have py51:(y5:Int) < 5:=by omega
      refine wpAny_ready (rs:=[0,7]) (by kernel_rfl) (by simp) ?_
      refine AllReady.cons rfl (fun K hK=>?_) (AllReady.cons rfl (fun K hK=>?_) (AllReady.nil))
      ·obtain ⟨V22,hV22⟩:∃ z,V21.alloc (.cells #[.string { data:=#[119,111,114,107,32] },.string { data:=#[111,114,100,101,114,32] },.string { data:=#[115,117,109,32] },.string { data:=#[98,101,115,105,100,101,32] }] 9)=z:=⟨_,rfl⟩
       have bV22:V22.heap[V21.heap.size]?=some (.cells #[.string { data:=#[119,111,114,107,32] },.string { data:=#[111,114,100,101,114,32] },.string { data:=#[115,117,109,32] },.string { data:=#[98,101,115,105,100,101,32] }] 9 (0,0)):=by rw [<- hV22];exact heap_alloc_new _ _
       have hbV22:Below V21.heap.size V21 V22:=by rw [<- hV22];exact (Below.refl _ _).alloc (Nat.le_refl _) _
       have rdV22:=rdV21.keepB hbV22 (by have:=rdV21.2.1;omega) (by have:=rdV21.2.1;omega)
       have gV22:=grown_thenB gV21 (hbV22.mono gV21.size)
       have hzV22:V21.heap.size < V22.heap.size:=by rw [<- hV22];simp
       go_simp
       try rw [hV22]
       refine hK _ _ ?_
       clear hK K
       try rw [hV22]
       clear hV22
       refine wpAny_take (i:=3) (v:=?_) rfl (by kernel_rfl) (by kernel_rfl) (by kernel_rfl) (fun _ _ _ h=>h) (Or.inl ⟨?_,?_⟩) ?_
       rotate_left
       ·go_simp
       ·(intro w;go_simp) <;> (with_reducible rfl)
       refine wpAny_ready (rs:=[4,7]) (by kernel_rfl) (by simp) ?_
       refine AllReady.cons rfl (fun K hK=>?_) (AllReady.cons rfl (fun K hK=>?_) (AllReady.nil))
       ·obtain ⟨l4,hl4,hc4⟩:=row4 bV22 (show y4 < 4 by omega)
        go_simp
        refine hK _ _ ?_
        clear hK K
        refine wpAny_ready (rs:=[7]) (by kernel_rfl) (by simp) ?_
        refine AllReady.cons rfl (fun K hK=>?_) AllReady.nil
        go_simp
        go_wp2_with (go_at_call 65;refine (c_sNumber y5 V22 (by omega)).mono ?_;rintro e V24 ⟨rfl,hbV24⟩)
        first | (refine hK _ _ ?_;clear hK K) | skip
        have rdV24:=rdV22.keepB hbV24 (by have:=rdV22.2.1;omega) (by have:=rdV22.2.1;omega)
        have gV24:=grown_thenB gV22 (hbV24.mono gV22.size)
        have bV24:=(hbV24.block (V21.heap.size) hzV22).trans bV22
        have hzV24:V21.heap.size < V24.heap.size:=by have:=hbV24.size;omega
        have hn5:(numL y5).length<=2:=numL_len 1 y5 (by omega)
        have z8:¬ (9223372036854775807 < (bs l4).size+(bs (numL y5)).size):=by rw [bs_size,bs_size];omega
        refine wpAny_take (i:=8) (v:=?_) rfl (by kernel_rfl) (by kernel_rfl) (by kernel_rfl) (fun _ _ _ h=>h) (Or.inl ⟨?_,?_⟩) ?_
        rotate_left
        ·go_simp
        ·(intro w;go_simp) <;> (with_reducible rfl)
        refine wpAny_take (i:=9) (v:=?_) rfl (by kernel_rfl) (by kernel_rfl) (by kernel_rfl) (fun _ _ _ h=>h) (Or.inl ⟨?_,?_⟩) ?_
        rotate_left
        ·go_simp
        ·(intro w;go_simp) <;> (with_reducible rfl)
        refine wpAny_done (by kernel_rfl) ?_ _
        go_wp2_with fail
        go_ret
        exact ⟨l4++numL y5,by rw [<- bs_append];rfl,by rw [List.length_append];omega,gV24,_,by omega,rdV24⟩
       ·go_simp
        go_wp2_with (go_at_call 65;refine (c_sNumber y5 V22 (by omega)).mono ?_;rintro e V25 ⟨rfl,hbV25⟩)
        first | (refine hK _ _ ?_;clear hK K) | skip
        have rdV25:=rdV22.keepB hbV25 (by have:=rdV22.2.1;omega) (by have:=rdV22.2.1;omega)
        have gV25:=grown_thenB gV22 (hbV25.mono gV22.size)
        have bV25:=(hbV25.block (V21.heap.size) hzV22).trans bV22
        have hzV25:V21.heap.size < V25.heap.size:=by have:=hbV25.size;omega
        refine wpAny_ready (rs:=[4]) (by kernel_rfl) (by simp) ?_
        refine AllReady.cons rfl (fun K hK=>?_) AllReady.nil
        obtain ⟨l4,hl4,hc4⟩:=row4 bV25 (show y4 < 4 by omega)
        go_simp
        refine hK _ _ ?_
        clear hK K
        have hn5:(numL y5).length<=2:=numL_len 1 y5 (by omega)
        have z8:¬ (9223372036854775807 < (bs l4).size+(bs (numL y5)).size):=by rw [bs_size,bs_size];omega
        refine wpAny_take (i:=8) (v:=?_) rfl (by kernel_rfl) (by kernel_rfl) (by kernel_rfl) (fun _ _ _ h=>h) (Or.inl ⟨?_,?_⟩) ?_
        rotate_left
        ·go_simp
        ·(intro w;go_simp) <;> (with_reducible rfl)
        refine wpAny_take (i:=9) (v:=?_) rfl (by kernel_rfl) (by kernel_rfl) (by kernel_rfl) (fun _ _ _ h=>h) (Or.inl ⟨?_,?_⟩) ?_
        rotate_left
        ·go_simp
        ·(intro w;go_simp) <;> (with_reducible rfl)
        refine wpAny_done (by kernel_rfl) ?_ _
        go_wp2_with fail
        go_ret
        exact ⟨l4++numL y5,by rw [<- bs_append];rfl,by rw [List.length_append];omega,gV25,_,by omega,rdV25⟩
      ·go_simp
       go_wp2_with (go_at_call 65;refine (c_sNumber y5 V21 (by omega)).mono ?_;rintro e V27 ⟨rfl,hbV27⟩)
       first | (refine hK _ _ ?_;clear hK K) | skip
       have rdV27:=rdV21.keepB hbV27 (by have:=rdV21.2.1;omega) (by have:=rdV21.2.1;omega)
       have gV27:=grown_thenB gV21 (hbV27.mono gV21.size)
       refine wpAny_ready (rs:=[0]) (by kernel_rfl) (by simp) ?_
       refine AllReady.cons rfl (fun K hK=>?_) AllReady.nil
       obtain ⟨V28,hV28⟩:∃ z,V27.alloc (.cells #[.string { data:=#[119,111,114,107,32] },.string { data:=#[111,114,100,101,114,32] },.string { data:=#[115,117,109,32] },.string { data:=#[98,101,115,105,100,101,32] }] 9)=z:=⟨_,rfl⟩
       have bV28:V28.heap[V27.heap.size]?=some (.cells #[.string { data:=#[119,111,114,107,32] },.string { data:=#[111,114,100,101,114,32] },.string { data:=#[115,117,109,32] },.string { data:=#[98,101,115,105,100,101,32] }] 9 (0,0)):=by rw [<- hV28];exact heap_alloc_new _ _
       have hbV28:Below V27.heap.size V27 V28:=by rw [<- hV28];exact (Below.refl _ _).alloc (Nat.le_refl _) _
       have rdV28:=rdV27.keepB hbV28 (by have:=rdV27.2.1;omega) (by have:=rdV27.2.1;omega)
       have gV28:=grown_thenB gV27 (hbV28.mono gV27.size)
       have hzV28:V27.heap.size < V28.heap.size:=by rw [<- hV28];simp
       go_simp
       try rw [hV28]
       refine hK _ _ ?_
       clear hK K
       try rw [hV28]
       clear hV28
       refine wpAny_take (i:=3) (v:=?_) rfl (by kernel_rfl) (by kernel_rfl) (by kernel_rfl) (fun _ _ _ h=>h) (Or.inl ⟨?_,?_⟩) ?_
       rotate_left
       ·go_simp
       ·(intro w;go_simp) <;> (with_reducible rfl)
       refine wpAny_ready (rs:=[4]) (by kernel_rfl) (by simp) ?_
       refine AllReady.cons rfl (fun K hK=>?_) AllReady.nil
       obtain ⟨l4,hl4,hc4⟩:=row4 bV28 (show y4 < 4 by omega)
       go_simp
       refine hK _ _ ?_
       clear hK K
       have hn5:(numL y5).length<=2:=numL_len 1 y5 (by omega)
       have z8:¬ (9223372036854775807 < (bs l4).size+(bs (numL y5)).size):=by rw [bs_size,bs_size];omega
       refine wpAny_take (i:=8) (v:=?_) rfl (by kernel_rfl) (by kernel_rfl) (by kernel_rfl) (fun _ _ _ h=>h) (Or.inl ⟨?_,?_⟩) ?_
       rotate_left
       ·go_simp
       ·(intro w;go_simp) <;> (with_reducible rfl)
       refine wpAny_take (i:=9) (v:=?_) rfl (by kernel_rfl) (by kernel_rfl) (by kernel_rfl) (fun _ _ _ h=>h) (Or.inl ⟨?_,?_⟩) ?_
       rotate_left
       ·go_simp
       ·(intro w;go_simp) <;> (with_reducible rfl)
       refine wpAny_done (by kernel_rfl) ?_ _
       go_wp2_with fail
       go_ret
       exact ⟨l4++numL y5,by rw [<- bs_append];rfl,by rw [List.length_append];omega,gV28,_,by omega,rdV28⟩
   ·have d4:((x:Int) == 4)=false:=beq_eq_false_iff_ne.2 (by omega)
    have HL:=Lib.hid (c_l20Deed base r (p+1) L A c w1 hr1 (by omega) hL hbd (fun W hg=>HA.out W (hg1.trans hg)))
    clear h0 h3 h4
    go_wp2_with fail
    refine HL.out.mono ?_
    rintro e w5 ⟨dk,da,db,rfl,hdk,hda,hdb,hg5,q5,hq5,hr5⟩
    have g5:=hg1.trans hg5
    have HT:=Lib.hid (c_sDeedText dk da db w5)
    have hlen:=deedL_len ⟨dk,da,db⟩
    generalize deedL ⟨dk,da,db⟩=l at HT hlen
    go_wp2_with fail
    refine HT.out.mono ?_
    rintro e w6 ⟨rfl,hb6⟩
    go_wp2_with fail
    go_ret
    exact ⟨l,rfl,by omega,grown_thenB g5 (hb6.mono g5.size),q5,by omega,hr5.keepB hb6 (by have:=hr5.2.1;omega) (by have:=hr5.2.1;omega)⟩
end
section
attribute [local go_sem ↓] Go.wp_at_zero Go.wp_at_succ
theorem c_DrawDeskLine (A:Option Addr) (n c:Nat) (w:World) (h:Bs w w.heap.size A n) (hn:n<=1048576) (hc:n<=c) :
  Calls Tryz.prog 20 #[.slice A n c] w fun e w'=>∃ vn vp D l,e=.returned (.tuple #[.agg #[vn,vp],.string (bs l)])∧DskP w' w.heap.size vn vp D∧l.length<=40∧Below w.heap.size w w':=by
 obtain ⟨w0,hw0⟩:∃ w0,w.alloc (.cells #[.slice none 0 0,.slice none 0 0] 31)=w0:=⟨_,rfl⟩
 have hz0:w0.heap.size=w.heap.size+1:=by rw [<- hw0];simp
 have hb0:Below w.heap.size w w0:=by rw [<- hw0];exact (Below.refl _ w).alloc (Nat.le_refl _) _
 have bR:w0.heap[w.heap.size]?=some (.cells #[.slice none 0 0,.slice none 0 0] 31 (0,0)):=by rw [<- hw0];exact heap_alloc_new _ _
 have h0:Bs w0 w.heap.size A n:=h.upto hb0 (Nat.le_refl _)
 clear h
 go_enter Tryz.func20,Tryz.ntmps20
 go_wp2_with fail
 clear hw0
 refine (c_l20OpenB A n c _ w.heap.size h0 (by omega) hn hc).mono ?_
 rintro e w1 ⟨r,rfl,hr,hrz,hb1⟩
 have hs1:=hb1.size
 have hrb:=hr.1
 have hrl:=hr.2.1
 have b1:=(hb1.block w.heap.size (by omega)).trans bR
 have hx1:=hb0.trans (hb1.mono (by omega))
 clear bR h0 hb1
 go_wp2_with fail
 refine (c_l20Desk w.heap.size r 0 12 _ hr (by omega) (by omega) (by omega)).mono ?_
 rintro e w2 ⟨vn,vp,D,rfl,hD,hg2,p2,hp2,hr2⟩
 have b2:=blk1 hg2 (show r≠w.heap.size by omega) b1
 have hx2:=hx1.trans (below_grown hg2 (show w.heap.size<=r by omega) (by omega))
 have hs2:=hg2.size
 obtain ⟨X1,x1,X2,x2,rfl,rfl⟩:=hD.now.slices
 obtain ⟨w3,hw3⟩:∃ w3,w2.alloc (.cells #[.slice X1 D.now.length x1,.slice X2 D.past.length x2] 31)=w3:=⟨_,rfl⟩
 have hz3:w3.heap.size=w2.heap.size+1:=by rw [<- hw3];simp
 have hb3:Below w2.heap.size w2 w3:=by rw [<- hw3];exact (Below.refl _ w2).alloc (Nat.le_refl _) _
 have bD:w3.heap[w2.heap.size]?=some (.cells #[.slice X1 D.now.length x1,.slice X2 D.past.length x2] 31 (0,0)):=by rw [<- hw3];exact heap_alloc_new _ _
 have hD3:=hD.below hb3 (Nat.le_refl _)
 have r3:=hr2.keepB hb3 (by omega) (by omega)
 have b3:=(hb3.block w.heap.size (by omega)).trans b2
 have hx3:=hx2.trans (hb3.mono (by omega))
 have hs3:=hb3.size
 clear hb3 hb0 hx1 hx2 b1 b2 hr hr2 hg2 hD
 go_wp2_with fail
 clear hw3
 refine wp_region_any (by kernel_rfl) ?_
 change wpAny _ _ _ _ _ _ _ (World.drew _)
 obtain ⟨V0,hV0⟩:∃ z,w3.drew=z:=⟨_,rfl⟩
 have hbV:Below w3.heap.size w3 V0:=by rw [<- hV0];exact (Below.refl _ w3).drew
 have hzV:=hbV.size
 have dV0:=(hbV.block w2.heap.size (by omega)).trans bD
 have bV0:=(hbV.block w.heap.size (by omega)).trans b3
 have hDV0:=hD3.below hbV (Nat.le_refl _)
 have rdV0:=r3.keepB hbV (by omega) (by omega)
 have hxV0:=hx3.trans (hbV.mono (by omega))
 rw [hV0]
 clear hV0 bD b3 hD3 r3 hx3 hbV
 refine wpAny_take (i:=1) (v:=?_) rfl (by kernel_rfl) (by kernel_rfl) (by kernel_rfl) (fun _ _ _ h=>h) (Or.inl ⟨?_,?_⟩) ?_
 rotate_left
 ·go_simp
 ·(intro w;go_simp) <;> (with_reducible rfl)
 refine wpAny_take (i:=2) (v:=?_) rfl (by kernel_rfl) (by kernel_rfl) (by kernel_rfl) (fun _ _ _ h=>h) (Or.inl ⟨?_,?_⟩) ?_
 rotate_left
 ·go_simp
 ·(intro w;go_simp) <;> (with_reducible rfl)
 refine wpAny_ready (rs:=[0,3]) (by kernel_rfl) (by simp) ?_
 refine AllReady.cons rfl (fun K hK=>?_) (AllReady.cons rfl (fun K hK=>?_) (AllReady.nil))
 ·obtain ⟨v0,v1,-,-⟩:=two_at dV0
  go_simp
  refine hK _ _ ?_
  clear hK K
  clear v0 v1
  refine wpAny_ready (rs:=[3]) (by kernel_rfl) (by simp) ?_
  refine AllReady.cons rfl (fun K hK=>?_) AllReady.nil
  obtain ⟨v0,v1,-,-⟩:=two_at dV0
  go_simp
  refine hK _ _ ?_
  clear hK K
  clear v0 v1
  refine wpAny_ready (rs:=[4]) (by kernel_rfl) (by simp) ?_
  refine AllReady.cons rfl (fun K hK=>?_) AllReady.nil
  go_simp
  go_wp2_with (go_at_call 62;(with_reducible refine (c_l20Line w.heap.size r p2 D.now X1 x1 V0 rdV0 (by omega) hDV0.len hDV0.bd (hDV0.cs (show r < w1.heap.size by omega)).2).mono ?_);rintro e V3 ⟨l,rfl,hl,gV3,q5,hq5,rdV3⟩)
  first | (refine hK _ _ ?_;clear hK K) | skip
  have bV3:=blk1 gV3 (show r≠w.heap.size by omega) bV0
  have dV3:=blk1 gV3 (show r≠w2.heap.size by omega) dV0
  have hDV3:=hDV0.low gV3 (show r < w1.heap.size by omega)
  have hxV3:=hxV0.trans (below_grown gV3 (show w.heap.size<=r by omega) hxV0.size)
  have hzV3:=gV3.size
  refine wpAny_ready (rs:=[5]) (by kernel_rfl) (by simp) ?_
  refine AllReady.cons rfl (fun K hK=>?_) AllReady.nil
  obtain ⟨r0,r1,f0,f1⟩:=two_at bV3
  obtain ⟨V4a,hV4a⟩:∃ z,V3.setCell ⟨w.heap.size,0,none⟩ (.slice X1 D.now.length x1)=z:=⟨_,rfl⟩
  obtain ⟨V4,hV4⟩:∃ z,V4a.setCell ⟨w.heap.size,1,none⟩ (.slice X2 D.past.length x2)=z:=⟨_,rfl⟩
  have bV4a:=set2a (.slice X1 D.now.length x1) bV3
  rw [hV4a] at bV4a
  have bV4:=set2b (.slice X2 D.past.length x2) bV4a
  rw [hV4] at bV4
  obtain ⟨-,r3,-,f3⟩:=two_at bV4a
  have gV4:V3.grownBy V4 (some w.heap.size):=by rw [<- hV4,<- hV4a];exact W2_grown _ _ _ _
  have hzV4:=gV4.size
  have dV4:=(gV4.block w2.heap.size (by have:=(Array.getElem?_eq_some_iff.1 dV3).1;omega) (by simp;omega)).trans dV3
  have hDV4:=hDV3.low gV4 (show w.heap.size < w1.heap.size by omega)
  have rdV4:Rd V4 w.heap.size r q5:=rdV3.other gV4 (by omega) (Nat.le_refl _)
  have hxV4:=hxV3.grown gV4 hxV3.size (fun k e=>by cases e;exact Nat.le_refl _)
  go_simp
  refine hK _ _ ?_
  clear hK K
  clear r0 r1 f0 f1 r3 f3
  refine wpAny_take (i:=6) (v:=?_) rfl (by kernel_rfl) (by kernel_rfl) (by kernel_rfl) (fun _ _ _ h=>h) (Or.inl ⟨?_,?_⟩) ?_
  rotate_left
  ·go_simp
  ·(intro w;go_simp) <;> (with_reducible rfl)
  refine wpAny_done (by kernel_rfl) ?_ _
  go_wp2_with fail
  have k0:=cell_of_row _ w.heap.size 0 _ _ _ bV4
  have k1:=cell_of_row _ w.heap.size 1 _ _ _ bV4
  refine bodyPost_ret (v:=.tuple #[.agg #[.slice X1 D.now.length x1,.slice X2 D.past.length x2],.string (bs l)]) (by simp [results,Tryz.f20,go_sem,k0,k1]) rfl ?_
  exact ⟨_,_,D,l,rfl,hDV4.mono (by omega),hl,hxV4⟩
 ·obtain ⟨v0,v1,-,-⟩:=two_at dV0
  go_simp
  refine hK _ _ ?_
  clear hK K
  clear v0 v1
  refine wpAny_ready (rs:=[0,4]) (by kernel_rfl) (by simp) ?_
  refine AllReady.cons rfl (fun K hK=>?_) (AllReady.cons rfl (fun K hK=>?_) (AllReady.nil))
  ·obtain ⟨v0,v1,-,-⟩:=two_at dV0
   go_simp
   refine hK _ _ ?_
   clear hK K
   clear v0 v1
   refine wpAny_ready (rs:=[4]) (by kernel_rfl) (by simp) ?_
   refine AllReady.cons rfl (fun K hK=>?_) AllReady.nil
   go_simp
   go_wp2_with (go_at_call 62;(with_reducible refine (c_l20Line w.heap.size r p2 D.now X1 x1 V0 rdV0 (by omega) hDV0.len hDV0.bd (hDV0.cs (show r < w1.heap.size by omega)).2).mono ?_);rintro e V7 ⟨l,rfl,hl,gV7,q5,hq5,rdV7⟩)
   first | (refine hK _ _ ?_;clear hK K) | skip
   have bV7:=blk1 gV7 (show r≠w.heap.size by omega) bV0
   have dV7:=blk1 gV7 (show r≠w2.heap.size by omega) dV0
   have hDV7:=hDV0.low gV7 (show r < w1.heap.size by omega)
   have hxV7:=hxV0.trans (below_grown gV7 (show w.heap.size<=r by omega) hxV0.size)
   have hzV7:=gV7.size
   refine wpAny_ready (rs:=[5]) (by kernel_rfl) (by simp) ?_
   refine AllReady.cons rfl (fun K hK=>?_) AllReady.nil
   obtain ⟨r0,r1,f0,f1⟩:=two_at bV7
   obtain ⟨V8a,hV8a⟩:∃ z,V7.setCell ⟨w.heap.size,0,none⟩ (.slice X1 D.now.length x1)=z:=⟨_,rfl⟩
   obtain ⟨V8,hV8⟩:∃ z,V8a.setCell ⟨w.heap.size,1,none⟩ (.slice X2 D.past.length x2)=z:=⟨_,rfl⟩
   have bV8a:=set2a (.slice X1 D.now.length x1) bV7
   rw [hV8a] at bV8a
   have bV8:=set2b (.slice X2 D.past.length x2) bV8a
   rw [hV8] at bV8
   obtain ⟨-,r3,-,f3⟩:=two_at bV8a
   have gV8:V7.grownBy V8 (some w.heap.size):=by rw [<- hV8,<- hV8a];exact W2_grown _ _ _ _
   have hzV8:=gV8.size
   have dV8:=(gV8.block w2.heap.size (by have:=(Array.getElem?_eq_some_iff.1 dV7).1;omega) (by simp;omega)).trans dV7
   have hDV8:=hDV7.low gV8 (show w.heap.size < w1.heap.size by omega)
   have rdV8:Rd V8 w.heap.size r q5:=rdV7.other gV8 (by omega) (Nat.le_refl _)
   have hxV8:=hxV7.grown gV8 hxV7.size (fun k e=>by cases e;exact Nat.le_refl _)
   go_simp
   refine hK _ _ ?_
   clear hK K
   clear r0 r1 f0 f1 r3 f3
   refine wpAny_take (i:=6) (v:=?_) rfl (by kernel_rfl) (by kernel_rfl) (by kernel_rfl) (fun _ _ _ h=>h) (Or.inl ⟨?_,?_⟩) ?_
   rotate_left
   ·go_simp
   ·(intro w;go_simp) <;> (with_reducible rfl)
   refine wpAny_done (by kernel_rfl) ?_ _
   go_wp2_with fail
   have k0:=cell_of_row _ w.heap.size 0 _ _ _ bV8
   have k1:=cell_of_row _ w.heap.size 1 _ _ _ bV8
   refine bodyPost_ret (v:=.tuple #[.agg #[.slice X1 D.now.length x1,.slice X2 D.past.length x2],.string (bs l)]) (by simp [results,Tryz.f20,go_sem,k0,k1]) rfl ?_
   exact ⟨_,_,D,l,rfl,hDV8.mono (by omega),hl,hxV8⟩
  ·go_simp
   go_wp2_with (go_at_call 62;(with_reducible refine (c_l20Line w.heap.size r p2 D.now X1 x1 V0 rdV0 (by omega) hDV0.len hDV0.bd (hDV0.cs (show r < w1.heap.size by omega)).2).mono ?_);rintro e V9 ⟨l,rfl,hl,gV9,q5,hq5,rdV9⟩)
   first | (refine hK _ _ ?_;clear hK K) | skip
   have bV9:=blk1 gV9 (show r≠w.heap.size by omega) bV0
   have dV9:=blk1 gV9 (show r≠w2.heap.size by omega) dV0
   have hDV9:=hDV0.low gV9 (show r < w1.heap.size by omega)
   have hxV9:=hxV0.trans (below_grown gV9 (show w.heap.size<=r by omega) hxV0.size)
   have hzV9:=gV9.size
   refine wpAny_ready (rs:=[0]) (by kernel_rfl) (by simp) ?_
   refine AllReady.cons rfl (fun K hK=>?_) AllReady.nil
   obtain ⟨v0,v1,-,-⟩:=two_at dV9
   go_simp
   refine hK _ _ ?_
   clear hK K
   clear v0 v1
   refine wpAny_ready (rs:=[5]) (by kernel_rfl) (by simp) ?_
   refine AllReady.cons rfl (fun K hK=>?_) AllReady.nil
   obtain ⟨r0,r1,f0,f1⟩:=two_at bV9
   obtain ⟨V11a,hV11a⟩:∃ z,V9.setCell ⟨w.heap.size,0,none⟩ (.slice X1 D.now.length x1)=z:=⟨_,rfl⟩
   obtain ⟨V11,hV11⟩:∃ z,V11a.setCell ⟨w.heap.size,1,none⟩ (.slice X2 D.past.length x2)=z:=⟨_,rfl⟩
   have bV11a:=set2a (.slice X1 D.now.length x1) bV9
   rw [hV11a] at bV11a
   have bV11:=set2b (.slice X2 D.past.length x2) bV11a
   rw [hV11] at bV11
   obtain ⟨-,r3,-,f3⟩:=two_at bV11a
   have gV11:V9.grownBy V11 (some w.heap.size):=by rw [<- hV11,<- hV11a];exact W2_grown _ _ _ _
   have hzV11:=gV11.size
   have dV11:=(gV11.block w2.heap.size (by have:=(Array.getElem?_eq_some_iff.1 dV9).1;omega) (by simp;omega)).trans dV9
   have hDV11:=hDV9.low gV11 (show w.heap.size < w1.heap.size by omega)
   have rdV11:Rd V11 w.heap.size r q5:=rdV9.other gV11 (by omega) (Nat.le_refl _)
   have hxV11:=hxV9.grown gV11 hxV9.size (fun k e=>by cases e;exact Nat.le_refl _)
   go_simp
   refine hK _ _ ?_
   clear hK K
   clear r0 r1 f0 f1 r3 f3
   refine wpAny_take (i:=6) (v:=?_) rfl (by kernel_rfl) (by kernel_rfl) (by kernel_rfl) (fun _ _ _ h=>h) (Or.inl ⟨?_,?_⟩) ?_
   rotate_left
   ·go_simp
   ·(intro w;go_simp) <;> (with_reducible rfl)
   refine wpAny_done (by kernel_rfl) ?_ _
   go_wp2_with fail
   have k0:=cell_of_row _ w.heap.size 0 _ _ _ bV11
   have k1:=cell_of_row _ w.heap.size 1 _ _ _ bV11
   refine bodyPost_ret (v:=.tuple #[.agg #[.slice X1 D.now.length x1,.slice X2 D.past.length x2],.string (bs l)]) (by simp [results,Tryz.f20,go_sem,k0,k1]) rfl ?_
   exact ⟨_,_,D,l,rfl,hDV11.mono (by omega),hl,hxV11⟩
end
section
attribute [local go_sem ↓] Go.wp_at_zero Go.wp_at_succ
theorem c_sameCus (L M:List (Int×Int)) (A B:Option Addr) (BA BB c d:Nat) (w:World) (hA:Cs w BA A L) (hB:Cs w BB B M) (hx:L.length<=140737488351232) (hy:M.length<=140737488351232) :
  Calls Tryz.prog 60 #[.slice A L.length c,.slice B M.length d] w fun e w'=>e=.returned (.bool (decide (L=M)))∧Below w.heap.size w w':=by
 go_enter Tryz.func60,Tryz.ntmps60
 by_cases hl:L.length=M.length
 ·have hd:((L.length:Int) != (M.length:Int))=false:=by simp [hl]
  have HL:=Lib.hid hl
  clear hl
  go_wp2_with fail
  go_loopw [5] (fun i wr=>∃ k n:Nat,k<=L.length∧i=.int .i64 k∧wr=w.drewN n∧Hid (∀ i,i < k->X L i=X M i∧Y L i=Y M i)) (fun i _=>L.length - (intOf i).toNat)
  case atStart=>exact ⟨0,0,Nat.zero_le _,rfl,rfl,Lib.hid fun i h=>by omega⟩
  case round =>
   obtain ⟨k,n,hk,rfl,rfl,HE⟩:=hrel
   by_cases hlt:k < L.length
   ·have hlm:k < M.length:=by have:=HL.out;omega
    obtain ⟨b,off,rfl,hlb,hc⟩:=hA (by omega)
    obtain ⟨b2,off2,rfl,hlb2,hc2⟩:=hB (by omega)
    obtain ⟨c1,c3⟩:=hc k hlt
    obtain ⟨c2,c4⟩:=hc2 k hlm
    have hNE:¬ (X L k=X M k∧Y L k=Y M k)->¬ L=M:=fun h e=>h (by rw [e];exact ⟨rfl,rfl⟩)
    clear hc hc2
    by_cases e1:X L k=X M k
    ·by_cases e2:Y L k=Y M k
     ·rw [<- e1] at c2
      rw [<- e2] at c4
      have HE2:Hid (∀ i,i < k+1->X L i=X M i∧Y L i=Y M i):=Lib.hid fun i hi=>by
       by_cases e:i=k
       ·subst e;exact ⟨e1,e2⟩
       ·exact HE.out i (by omega)
      clear e1 e2 hNE
      go_wp2_with fail
      go_quiet (fail)
      go_wp2_with fail
      go_roundw
      case rel=>exact ⟨k+1,_,by omega,by go_num,rfl,HE2⟩
      case measure=>simp [intOf];omega
     ·have f2:(Y L k != Y M k)=true:=by simpa using e2
      have f3:(Y L k == Y M k)=false:=by simpa using e2
      have HN:=Lib.hid (hNE fun h=>e2 h.2)
      rw [<- e1] at c2
      clear e1 e2 hNE
      go_wp2_with fail
      go_quiet (fail)
      go_wp2_with fail
      go_ret
      exact ⟨by rw [decide_eq_false HN.out];rfl,by (repeat (first | exact rfl | exact Below.refl _ _ | (with_reducible refine Below.drew ?_) | (with_reducible refine Below.drewN ?_ _) | (with_reducible refine Below.alloc ?_ ?_ _) | (with_reducible refine Below.setCell ?_ ?_ _) | (show _<=_;focus (first | omega | (simp;done) | (simp;omega)))))⟩
    ·have f2:(X L k != X M k)=true:=by simpa using e1
     have f3:(X L k == X M k)=false:=by simpa using e1
     have HN:=Lib.hid (hNE fun h=>e1 h.1)
     clear e1 hNE
     go_wp2_with fail
     go_quiet (fail)
     go_wp2_with fail
     go_ret
     exact ⟨by rw [decide_eq_false HN.out];rfl,by (repeat (first | exact rfl | exact Below.refl _ _ | (with_reducible refine Below.drew ?_) | (with_reducible refine Below.drewN ?_ _) | (with_reducible refine Below.alloc ?_ ?_ _) | (with_reducible refine Below.setCell ?_ ?_ _) | (show _<=_;focus (first | omega | (simp;done) | (simp;omega)))))⟩
   ·go_wp2_with fail
    go_ret
    have hLM:L=M:=by
     refine List.ext_getElem HL.out fun i h1 h2=>?_
     have:=HE.out i (by omega)
     have e1:L[i]=(X L i,Y L i):=by simp [X,Y,h1]
     have e2:M[i]=(X M i,Y M i):=by simp [X,Y,h2]
     rw [e1,e2,this.1,this.2]
    exact ⟨by rw [decide_eq_true hLM];rfl,by (repeat (first | exact rfl | exact Below.refl _ _ | (with_reducible refine Below.drew ?_) | (with_reducible refine Below.drewN ?_ _) | (with_reducible refine Below.alloc ?_ ?_ _) | (with_reducible refine Below.setCell ?_ ?_ _) | (show _<=_;focus (first | omega | (simp;done) | (simp;omega)))))⟩
 ·have hd:((L.length:Int) != (M.length:Int))=true:=by simpa using fun h:(L.length:Int)=M.length=>hl (by omega)
  have HL:=Lib.hid hl
  clear hl
  go_wp2_with fail
  go_ret
  exact ⟨by rw [decide_eq_false (show ¬ L=M from fun h=>HL.out (by rw [h]))];rfl,by (repeat (first | exact rfl | exact Below.refl _ _ | (with_reducible refine Below.drew ?_) | (with_reducible refine Below.drewN ?_ _) | (with_reducible refine Below.alloc ?_ ?_ _) | (with_reducible refine Below.setCell ?_ ?_ _) | (show _<=_;focus (first | omega | (simp;done) | (simp;omega)))))⟩
def eqK (D E:KV):Bool:=decide (D.now=E.now) && decide (D.past=E.past)
theorem eqK_self (D:KV):eqK D D=true:=by simp [eqK]
theorem LL_ext {P Q:List (List (Int×Int))} (hl:P.length=Q.length) (h:∀ k,k < P.length->LL P k=LL Q k):P=Q:=by
 refine List.ext_getElem hl fun i h1 h2=>?_
 have:=h i h1
 rwa [LL_get h1,LL_get h2] at this
theorem c_sameDesk (D E:KV) (vn vp un up:Value) (w:World) (hK:Ks w w.heap.size vn vp D) (hE:Ks w w.heap.size un up E) (hs:SmallK D) (ht:SmallK E) :
  Calls Tryz.prog 18 #[.agg #[vn,vp],.agg #[un,up]] w fun e w'=>e=.returned (.bool (eqK D E))∧Below w.heap.size w w':=by
 obtain ⟨w0,hw0⟩:∃ w0,(w.alloc (.cells #[vn,vp] 31)).alloc (.cells #[un,up] 31)=w0:=⟨_,rfl⟩
 have hz0:w0.heap.size=w.heap.size+2:=by rw [<- hw0];simp
 have hb0:Below w.heap.size w w0:=by rw [<- hw0];exact ((Below.refl _ w).alloc (Nat.le_refl _) _).alloc (by simp) _
 have bD:w0.heap[w.heap.size]?=some (.cells #[vn,vp] 31 (0,0)):=by rw [<- hw0];exact (Below.heap_alloc _ _ _ (by simp)).trans (heap_alloc_new _ _)
 have bE:w0.heap[w.heap.size+1]?=some (.cells #[un,up] 31 (0,0)):=by rw [<- hw0];exact heap_newK _ _ _
 have hK0:=(hK.below hb0).more (show w.heap.size<=w0.heap.size by omega)
 have hE0:=(hE.below hb0).more (show w.heap.size<=w0.heap.size by omega)
 obtain ⟨⟨An,cn,rfl,hcn,hN⟩,Ap,cp,rfl,hcp,hP⟩:=hK0
 obtain ⟨⟨Bn,dn,rfl,hdn,hM⟩,Bp,dp,rfl,hdp,hQ⟩:=hE0
 obtain ⟨hs1,hs2,hs3⟩:=hs
 obtain ⟨ht1,ht2,ht3⟩:=ht
 have HN:=Lib.hid (fun W (hb:Below w0.heap.size w0 W)=>c_sameCus D.now E.now An Bn w0.heap.size w0.heap.size cn dn W (hN.below hb) (hM.below hb) (by omega) (by omega))
 have d1:=cell_of_row _ w.heap.size 0 _ _ _ bD
 have d2:=cell_of_row _ w.heap.size 1 _ _ _ bD
 have e1:=cell_of_row _ (w.heap.size+1) 0 _ _ _ bE
 have e2:=cell_of_row _ (w.heap.size+1) 1 _ _ _ bE
 clear hK hE hN hM
 go_enter Tryz.func18,Tryz.ntmps18
 go_wp2_with fail
 refine (HN.out _ (Below.refl _ _)).mono ?_
 rintro e w1 ⟨rfl,hb1⟩
 clear hw0
 have hs1':=hb1.size
 have HCs:=Lib.hid (fun W (hb:Below w0.heap.size w0 W)=>show (W.cell? ⟨w.heap.size,1,none⟩=some (.slice Ap D.past.length cp))∧(W.cell? ⟨w.heap.size+1,1,none⟩=some (.slice Bp E.past.length dp)) from ⟨(hb.cell (p:=⟨w.heap.size,1,none⟩) (show w.heap.size < w0.heap.size by omega)).trans d2,(hb.cell (p:=⟨w.heap.size+1,1,none⟩) (show w.heap.size+1 < w0.heap.size by omega)).trans e2⟩)
 clear d1 d2 e1 e2
 obtain ⟨d2,e2⟩:=HCs.out _ hb1
 by_cases hne:D.now=E.now
 ·have HD:=Lib.hid (decide_eq_true hne)
  rw [HD.out]
  by_cases hl:D.past.length=E.past.length
  ·have hd:((D.past.length:Int) != (E.past.length:Int))=false:=by simp [hl]
   have HL:=Lib.hid hl
   have HQ:=Lib.hid hQ
   have HP:=Lib.hid hP
   clear hl hne hP hQ
   go_wp2_with fail
   clear d2 e2
   go_loopw [5] (fun i wr=>∃ k:Nat,k<=D.past.length∧i=.int .i64 k∧Below w0.heap.size w0 wr∧Hid (∀ j,j < k->LL D.past j=LL E.past j)) (fun i _=>D.past.length - (intOf i).toNat)
   case atStart=>exact ⟨0,Nat.zero_le _,rfl,hb1,Lib.hid fun i h=>by omega⟩
   case round =>
    obtain ⟨k,hk,rfl,hb,HA⟩:=hrel
    obtain ⟨d2,e2⟩:=HCs.out _ hb
    by_cases hlt:k < D.past.length
    ·have hlm:k < E.past.length:=by have:=HL.out;omega
     obtain ⟨pb,po,rfl,hpl,hpc⟩:=HP.out (by omega)
     obtain ⟨qb,qo,rfl,hql,hqc⟩:=HQ.out (by omega)
     obtain ⟨Pk,pk,p1,p2,p3⟩:=hpc k hlt
     obtain ⟨Qk,qk,q1,q2,q3⟩:=hqc k hlm
     have c1:=WB.cell (B:=w0.heap.size) (w:=wr) hpl ((hb.cell (p:=⟨pb,po+k,none⟩) hpl).trans p1)
     have c2:=WB.cell (B:=w0.heap.size) (w:=wr) hql ((hb.cell (p:=⟨qb,qo+k,none⟩) hql).trans q1)
     have c3:=WB.cell (B:=w0.heap.size) (w:=wr) (b:=w.heap.size) (o:=1) (by omega) d2
     have c4:=WB.cell (B:=w0.heap.size) (w:=wr) (b:=w.heap.size+1) (o:=1) (by omega) e2
     have z1:(0:Int)<=(k:Int):=by omega
     have z2:(k:Int) < (D.past.length:Int):=by omega
     have z3:(k:Int) < (E.past.length:Int):=by omega
     have hsz:=hb.size
     have HS:=Lib.hid (fun W (hW:Below w0.heap.size wr W)=>c_sameCus (LL D.past k) (LL E.past k) Pk Qk w0.heap.size w0.heap.size pk qk W (p3.below (hb.trans hW)) (q3.below (hb.trans hW)) (by have:=hs3 k hlt;omega) (by have:=ht3 k hlm;omega))
     clear hpc hqc p1 q1 p3 q3
     by_cases he:LL D.past k=LL E.past k
     ·have HT:=Lib.hid (decide_eq_true he)
      have HE:=Lib.hid he
      rw [HT.out] at HS
      clear he
      go_wp2_with fail
      refine wp_region_wb w0.heap.size (by kernel_rfl) (by kernel_rfl) ?_
      repeat (go_big_quiet_step ((go_at_call 60;exact Calls.inB hsz (HS.out _ (WB.below _)))))
      refine wpQuiet_nil ?_
      rintro w5 ⟨⟨_,hb5⟩,rfl⟩
      clear c1 c2 c3 c4
      go_wp2_with fail
      go_roundw
      case rel=>exact ⟨k+1,by omega,by go_num,hb.trans hb5,Lib.hid fun i hi=>by
       by_cases e:i=k
       ·subst e;exact HE.out
       ·exact HA.out i (by omega)⟩
      case measure=>simp [intOf];omega
     ·have HT:=Lib.hid (decide_eq_false he)
      have HE:=Lib.hid he
      rw [HT.out] at HS
      clear he
      go_wp2_with fail
      refine wp_region_wb w0.heap.size (by kernel_rfl) (by kernel_rfl) ?_
      repeat (go_big_quiet_step ((go_at_call 60;exact Calls.inB hsz (HS.out _ (WB.below _)))))
      refine wpQuiet_nil ?_
      rintro w5 ⟨⟨_,hb5⟩,rfl⟩
      clear c1 c2 c3 c4
      go_wp2_with fail
      go_ret
      have hF:eqK D E=false:=by
       have:¬ D.past=E.past:=fun h=>HE.out (by rw [h])
       simp [eqK,this]
      exact ⟨by rw [hF];rfl,(hb0.trans ((hb.trans hb5).mono (by omega)))⟩
    ·go_wp2_with fail
     go_ret
     have hT:D.past=E.past:=LL_ext HL.out fun i hi=>HA.out i (by omega)
     exact ⟨by rw [eqK,HD.out,decide_eq_true hT];rfl,hb0.trans (hb.mono (by omega))⟩
  ·have hd:((D.past.length:Int) != (E.past.length:Int))=true:=by simpa using fun h:(D.past.length:Int)=E.past.length=>hl (by omega)
   have HL:=Lib.hid hl
   clear hl hne
   go_wp2_with fail
   go_ret
   have hF:eqK D E=false:=by
    have:¬ D.past=E.past:=fun h=>HL.out (by rw [h])
    simp [eqK,this]
   exact ⟨by rw [hF];rfl,hb0.trans (hb1.mono (by omega))⟩
 ·have HD:=Lib.hid (decide_eq_false hne)
  rw [HD.out]
  clear hne
  go_wp2_with fail
  go_ret
  have hF:eqK D E=false:=by rw [eqK,HD.out];rfl
  exact ⟨by rw [hF];rfl,hb0.trans (hb1.mono (by omega))⟩
theorem ks_zero (w:World) (B:Nat):Ks w B (.slice none 0 0) (.slice none 0 0) noK:=⟨⟨none,0,rfl,Nat.le_refl _,fun h=>by simp [noK] at h⟩,none,0,rfl,Nat.le_refl _,Css.nil _ _ _⟩
theorem small_zero:SmallK noK:=⟨by simp [noK],by simp [noK],fun k hk=>by simp [noK] at hk⟩
theorem c_noDesk (D:KV) (vn vp:Value) (w:World) (hK:Ks w w.heap.size vn vp D) (hs:SmallK D) :
  Calls Tryz.prog 22 #[.agg #[vn,vp]] w fun e w'=>e=.returned (.bool (eqK D noK))∧Below w.heap.size w w':=by
 obtain ⟨w0,hw0⟩:∃ w0,w.alloc (.cells #[vn,vp] 31)=w0:=⟨_,rfl⟩
 have hz0:w0.heap.size=w.heap.size+1:=by rw [<- hw0];simp
 have hb0:Below w.heap.size w w0:=by rw [<- hw0];exact (Below.refl _ w).alloc (Nat.le_refl _) _
 have bD:w0.heap[w.heap.size]?=some (.cells #[vn,vp] 31 (0,0)):=by rw [<- hw0];exact heap_alloc_new _ _
 have hK0:=(hK.below hb0).more (show w.heap.size<=w0.heap.size by omega)
 have HS:=Lib.hid (c_sameDesk D noK vn vp _ _ w0 hK0 (ks_zero _ _) hs small_zero)
 obtain ⟨⟨An,cn,rfl,-,-⟩,Ap,cp,rfl,-,-⟩:=hK0
 have d1:=cell_of_row _ w.heap.size 0 _ _ _ bD
 have d2:=cell_of_row _ w.heap.size 1 _ _ _ bD
 clear hK
 go_enter Tryz.func22,Tryz.ntmps22
 go_wp2_with fail
 refine HS.out.mono ?_
 rintro e w1 ⟨rfl,hb1⟩
 go_wp2_with fail
 go_ret
 exact ⟨rfl,hb0.trans (hb1.mono (by omega))⟩
end
section
open Go.RowKit Go.ChangeShapes Go.WideShapes Go.ChangeAt
def IsRow (k:IntKind) (w:World) (a:Option Addr) (len cap:Nat) (zs:List Int):Prop :=
 (a=none∧len=0∧cap=0∧zs=[]) ∨
 ∃ x,a=some x∧len<=cap∧cap<=maxLen∧zs.length=cap∧(∀ i,i < zs.length->w.cell? (x.add i)=some (.int k (zs.getD i 0)))∧∀ n ∈ zs,(Lit.int k n).wf=true
theorem IsRow.bs {w:World} {a:Option Addr} {len cap:Nat} {zs:List Int} (h:IsRow .u8 w a len cap zs):Bs w w.heap.size a len∧len<=cap:=by
 rcases h with ⟨rfl,rfl,rfl,rfl⟩ | ⟨x,rfl,hl,hm,hz,hcell,hwz⟩
 ·exact ⟨fun h=>by omega,Nat.le_refl _⟩
 ·refine ⟨fun h0=>?_,hl⟩
  obtain ⟨b,off,spot⟩:=x
  have hc:=hcell 0 (by omega)
  have hspot:spot=none:=by simpa [Addr.add] using World.cell?_spot hc
  subst hspot
  refine ⟨b,off,rfl,?_,fun k hk=>?_⟩
  ·exact World.block_lt_of_cell? w ⟨b,off,none⟩ (by simpa [Addr.add] using hc)
  ·have h1:=hcell k (by omega)
   have e:zs.getD k 0=zs[k]'(by omega):=by simp [List.getD,List.getElem?_eq_getElem (show k < zs.length by omega)]
   have hm:zs.getD k 0 ∈ zs:=by rw [e];exact List.getElem_mem _
   have h2:=bounds_u8 (hwz _ hm)
   refine ⟨zs.getD k 0,?_,h2.1,h2.2⟩
   rw [<- h1]
   by_cases e:k=0
   ·subst e;simp [Addr.add]
   ·simp [Addr.add,e]
end
end Go.Proofs.YthpccmkagikhjaaGreatDoor

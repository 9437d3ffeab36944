import Derived.Test.YthpccmkagikhjaaGreatDoorQDeskSay7
import Derived.Test.YthpccmkagikhjaaGreatDoorQDeskSay19
import Derived.Test.YthpccmkagikhjaaGreatDoorQDeskSay26
namespace Go.Proofs.YthpccmkagikhjaaGreatDoor
set_option linter.unusedVariables false
open Go.RowKit
set_option maxRecDepth 8000
set_option maxHeartbeats 16000000
section
attribute [local go_sem ↓] Go.wp_at_zero Go.wp_at_succ
theorem row9 {w:World} {b y:Nat} (h:w.heap[b]?=some (.cells #[.string { data:=#[109,97,110,121] },.string { data:=#[119,97,105,116,115] },.string { data:=#[108,101,97,118,101,115] },.string { data:=#[108,97,115,116] },.string { data:=#[114,111,117,110,100,115] },.string { data:=#[98,117,115,121] },.string { data:=#[110,101,101,100] },.string { data:=#[108,101,97,115,116] },.string { data:=#[105,100,108,101] }] 9 (0,0))) (hy:y < 9):∃ l:List UInt8,l.length<=20∧w.cell? ⟨b,y,none⟩=some (.string (bs l)):=by
 have c:=fun o=>cell_of_row w b o _ _ _ h
 match y,hy with
 | 0,_=>exact ⟨[109,97,110,121],by simp,c 0⟩
 | 1,_=>exact ⟨[119,97,105,116,115],by simp,c 1⟩
 | 2,_=>exact ⟨[108,101,97,118,101,115],by simp,c 2⟩
 | 3,_=>exact ⟨[108,97,115,116],by simp,c 3⟩
 | 4,_=>exact ⟨[114,111,117,110,100,115],by simp,c 4⟩
 | 5,_=>exact ⟨[98,117,115,121],by simp,c 5⟩
 | 6,_=>exact ⟨[110,101,101,100],by simp,c 6⟩
 | 7,_=>exact ⟨[108,101,97,115,116],by simp,c 7⟩
 | 8,_=>exact ⟨[105,100,108,101],by simp,c 8⟩
theorem row15 {w:World} {b y:Nat} (h:w.heap[b]?=some (.cells #[.string { data:=#[] },.string { data:=#[99,111,109,101] },.string { data:=#[99,111,109,101,32,49] },.string { data:=#[99,111,109,101,32,48,32,49,48] },.string { data:=#[110,101,101,100,32,120] },.string { data:=#[108,97,116,101,114,32,48] },.string { data:=#[119,111,114,107] },.string { data:=#[119,111,114,107,32,50,48,49] },.string { data:=#[111,114,100,101,114,32,52] },.string { data:=#[115,117,109,32,52] },.string { data:=#[98,101,115,105,100,101,32,48] },.string { data:=#[98,101,115,105,100,101,32,53] },.string { data:=#[32,109,97,110,121] },.string { data:=#[103,111,32,48] },.string { data:=#[115,117,109,32,120] }] 9 (0,0))) (hy:y < 15):∃ l:List UInt8,l.length<=20∧w.cell? ⟨b,y,none⟩=some (.string (bs l)):=by
 have c:=fun o=>cell_of_row w b o _ _ _ h
 match y,hy with
 | 0,_=>exact ⟨[],by simp,c 0⟩
 | 1,_=>exact ⟨[99,111,109,101],by simp,c 1⟩
 | 2,_=>exact ⟨[99,111,109,101,32,49],by simp,c 2⟩
 | 3,_=>exact ⟨[99,111,109,101,32,48,32,49,48],by simp,c 3⟩
 | 4,_=>exact ⟨[110,101,101,100,32,120],by simp,c 4⟩
 | 5,_=>exact ⟨[108,97,116,101,114,32,48],by simp,c 5⟩
 | 6,_=>exact ⟨[119,111,114,107],by simp,c 6⟩
 | 7,_=>exact ⟨[119,111,114,107,32,50,48,49],by simp,c 7⟩
 | 8,_=>exact ⟨[111,114,100,101,114,32,52],by simp,c 8⟩
 | 9,_=>exact ⟨[115,117,109,32,52],by simp,c 9⟩
 | 10,_=>exact ⟨[98,101,115,105,100,101,32,48],by simp,c 10⟩
 | 11,_=>exact ⟨[98,101,115,105,100,101,32,53],by simp,c 11⟩
 | 12,_=>exact ⟨[32,109,97,110,121],by simp,c 12⟩
 | 13,_=>exact ⟨[103,111,32,48],by simp,c 13⟩
 | 14,_=>exact ⟨[115,117,109,32,120],by simp,c 14⟩
theorem row4 {w:World} {b y:Nat} (h:w.heap[b]?=some (.cells #[.string { data:=#[119,111,114,107,32] },.string { data:=#[111,114,100,101,114,32] },.string { data:=#[115,117,109,32] },.string { data:=#[98,101,115,105,100,101,32] }] 9 (0,0))) (hy:y < 4):∃ l:List UInt8,l.length<=20∧w.cell? ⟨b,y,none⟩=some (.string (bs l)):=by
 have c:=fun o=>cell_of_row w b o _ _ _ h
 match y,hy with
 | 0,_=>exact ⟨[119,111,114,107,32],by simp,c 0⟩
 | 1,_=>exact ⟨[111,114,100,101,114,32],by simp,c 1⟩
 | 2,_=>exact ⟨[115,117,109,32],by simp,c 2⟩
 | 3,_=>exact ⟨[98,101,115,105,100,101,32],by simp,c 3⟩
theorem c_l20Line (base r p:Nat) (L:List (Int×Int)) (A:Option Addr) (c:Nat) (w:World) (h:Rd w base r p) (hp:p<=800000000) (hL:L.length<=1000) (hbd:bdX L)
  (hA:∀ W,w.grownBy W (some r)->Cs W W.heap.size A L) :
  Calls Tryz.prog 62 #[.pointer (some ⟨r,0,none⟩),.slice A L.length c] w fun e w'=>∃ l:List UInt8,e=.returned (.string (bs l))∧l.length<=40∧w.grownBy w' (some r)∧∃ p',p'<=p+20∧Rd w' base r p':=by
 have hrw:=h.2.1
 have hbr:=h.1
 have HA:=Lib.hid hA
 clear hA
 go_enter Tryz.func62,Tryz.ntmps62
 go_wp2_with fail
 ((with_reducible refine (c_pickI base r p 7 _ h (by omega) (by omega) (by omega)).mono ?_))
 rintro e w1 ⟨x,hx,rfl,hg1,hr1⟩
 have hs1:=hg1.size
 by_cases h0:x=0∨x=1∨x=2
 ·obtain ⟨w2,hw2⟩:∃ z,w1.alloc (.cells #[.string { data:=#[109,97,110,121] },.string { data:=#[119,97,105,116,115] },.string { data:=#[108,101,97,118,101,115] },.string { data:=#[108,97,115,116] },.string { data:=#[114,111,117,110,100,115] },.string { data:=#[98,117,115,121] },.string { data:=#[110,101,101,100] },.string { data:=#[108,101,97,115,116] },.string { data:=#[105,100,108,101] }] 9)=z:=⟨_,rfl⟩
  have hb2:Below w1.heap.size w1 w2:=by rw [<- hw2];exact (Below.refl _ _).alloc (Nat.le_refl _) _
  have bn:w2.heap[w1.heap.size]?=some (.cells #[.string { data:=#[109,97,110,121] },.string { data:=#[119,97,105,116,115] },.string { data:=#[108,101,97,118,101,115] },.string { data:=#[108,97,115,116] },.string { data:=#[114,111,117,110,100,115] },.string { data:=#[98,117,115,121] },.string { data:=#[110,101,101,100] },.string { data:=#[108,101,97,115,116] },.string { data:=#[105,100,108,101] }] 9 (0,0)):=by rw [<- hw2];exact heap_alloc_new _ _
  have r2:=hr1.keepB hb2 (by have:=hr1.2.1;omega) (by have:=hr1.2.1;omega)
  have g2:=grown_thenB hg1 (hb2.mono hs1)
  have hz2:w1.heap.size < w2.heap.size:=by rw [<- hw2];simp
  have hrl:=hr1.2.1
  have HP:=Lib.hid (c_pickI base r (p+1) 9 w2 r2 (by omega) (by omega) (by omega))
  have HFin:Hid (∀ (w3:World) (y:Nat),(y:Int) < 9->w2.grownBy w3 (some r)->∃ l:List UInt8,l.length<=20∧w3.cell? ⟨w1.heap.size,y,none⟩=some (.string (bs l))):=Lib.hid (fun w3 y hy hg=>row9 ((hg.block w1.heap.size hz2 (by simp;omega)).trans bn) (by omega))
  clear bn hb2 r2
  rcases h0 with rfl | rfl | rfl
  all_goals
   go_wp2_with fail
   refine HP.out.mono ?_
   rintro e w3 ⟨y,hy,rfl,hg3,hr3⟩
   obtain ⟨l,hl,hc⟩:=HFin.out w3 y hy hg3
   have p1:(0:Int)<=(y:Int):=by omega
   have g3:=g2.trans hg3
   clear hw2
   go_wp2_with fail
   go_ret
   exact ⟨l,rfl,by omega,g3,_,by omega,hr3⟩
 ·have d0:((x:Int) == 0)=false:=beq_eq_false_iff_ne.2 (by omega)
  have d1:((x:Int) == 1)=false:=beq_eq_false_iff_ne.2 (by omega)
  have d2:((x:Int) == 2)=false:=beq_eq_false_iff_ne.2 (by omega)
  by_cases h3:x=3
  ·have d3:((x:Int) == 3)=true:=beq_iff_eq.2 (by omega)
   obtain ⟨w2,hw2⟩:∃ z,w1.alloc (.cells #[.string { data:=#[] },.string { data:=#[99,111,109,101] },.string { data:=#[99,111,109,101,32,49] },.string { data:=#[99,111,109,101,32,48,32,49,48] },.string { data:=#[110,101,101,100,32,120] },.string { data:=#[108,97,116,101,114,32,48] },.string { data:=#[119,111,114,107] },.string { data:=#[119,111,114,107,32,50,48,49] },.string { data:=#[111,114,100,101,114,32,52] },.string { data:=#[115,117,109,32,52] },.string { data:=#[98,101,115,105,100,101,32,48] },.string { data:=#[98,101,115,105,100,101,32,53] },.string { data:=#[32,109,97,110,121] },.string { data:=#[103,111,32,48] },.string { data:=#[115,117,109,32,120] }] 9)=z:=⟨_,rfl⟩
   have hb2:Below w1.heap.size w1 w2:=by rw [<- hw2];exact (Below.refl _ _).alloc (Nat.le_refl _) _
   have bn:w2.heap[w1.heap.size]?=some (.cells #[.string { data:=#[] },.string { data:=#[99,111,109,101] },.string { data:=#[99,111,109,101,32,49] },.string { data:=#[99,111,109,101,32,48,32,49,48] },.string { data:=#[110,101,101,100,32,120] },.string { data:=#[108,97,116,101,114,32,48] },.string { data:=#[119,111,114,107] },.string { data:=#[119,111,114,107,32,50,48,49] },.string { data:=#[111,114,100,101,114,32,52] },.string { data:=#[115,117,109,32,52] },.string { data:=#[98,101,115,105,100,101,32,48] },.string { data:=#[98,101,115,105,100,101,32,53] },.string { data:=#[32,109,97,110,121] },.string { data:=#[103,111,32,48] },.string { data:=#[115,117,109,32,120] }] 9 (0,0)):=by rw [<- hw2];exact heap_alloc_new _ _
   have r2:=hr1.keepB hb2 (by have:=hr1.2.1;omega) (by have:=hr1.2.1;omega)
   have g2:=grown_thenB hg1 (hb2.mono hs1)
   have hz2:w1.heap.size < w2.heap.size:=by rw [<- hw2];simp
   have hrl:=hr1.2.1
   have HP:=Lib.hid (c_pickI base r (p+1) 15 w2 r2 (by omega) (by omega) (by omega))
   have HFin:Hid (∀ (w3:World) (y:Nat),(y:Int) < 15->w2.grownBy w3 (some r)->∃ l:List UInt8,l.length<=20∧w3.cell? ⟨w1.heap.size,y,none⟩=some (.string (bs l))):=Lib.hid (fun w3 y hy hg=>row15 ((hg.block w1.heap.size hz2 (by simp;omega)).trans bn) (by omega))
   clear bn hb2 r2 h0 h3
   go_wp2_with fail
   refine HP.out.mono ?_
   rintro e w3 ⟨y,hy,rfl,hg3,hr3⟩
   obtain ⟨l,hl,hc⟩:=HFin.out w3 y hy hg3
   have p1:(0:Int)<=(y:Int):=by omega
   have g3:=g2.trans hg3
   clear hw2
   go_wp2_with fail
   go_ret
   exact ⟨l,rfl,by omega,g3,_,by omega,hr3⟩
  ·have d3:((x:Int) == 3)=false:=beq_eq_false_iff_ne.2 (by omega)
   by_cases h4:x=4
   ·have d4:((x:Int) == 4)=true:=beq_iff_eq.2 (by omega)
    clear h0 h3 h4
    go_wp2_with fail
    refine wp_region_any (by kernel_rfl) ?_
    change wpAny _ _ _ _ _ _ _ (World.drew _)
    obtain ⟨V0,hV0⟩:∃ z,w1.drew=z:=⟨_,rfl⟩
    have rdV0:Rd V0 base r (p+1):=by rw [<- hV0];exact hr1
    have gV0:w.grownBy V0 (some r):=by rw [<- hV0];exact grown_thenB hg1 (Below.refl _ w1).drew
    have rd0:r < V0.heap.size∧True:=⟨rdV0.2.1,trivial⟩
    rw [hV0]
    clear hV0
    refine wpAny_take (i:=1) (v:=?_) rfl (by kernel_rfl) (by kernel_rfl) (by kernel_rfl) (fun _ _ _ h=>h) (Or.inl ⟨?_,?_⟩) ?_
    rotate_left
    ·go_simp
    ·(intro w;go_simp) <;> (with_reducible rfl)
    refine wpAny_take (i:=5) (v:=?_) rfl (by kernel_rfl) (by kernel_rfl) (by kernel_rfl) (fun _ _ _ h=>h) (Or.inl ⟨?_,?_⟩) ?_
    rotate_left
    ·go_simp
    ·(intro w;go_simp) <;> (with_reducible rfl)
    refine wpAny_ready (rs:=[0,2]) (by kernel_rfl) (by simp) ?_
    refine AllReady.cons rfl (fun K hK=>?_) (AllReady.cons rfl (fun K hK=>?_) (AllReady.nil))
    ·obtain ⟨V1,hV1⟩:∃ z,V0.alloc (.cells #[.string { data:=#[119,111,114,107,32] },.string { data:=#[111,114,100,101,114,32] },.string { data:=#[115,117,109,32] },.string { data:=#[98,101,115,105,100,101,32] }] 9)=z:=⟨_,rfl⟩
     have bV1:V1.heap[V0.heap.size]?=some (.cells #[.string { data:=#[119,111,114,107,32] },.string { data:=#[111,114,100,101,114,32] },.string { data:=#[115,117,109,32] },.string { data:=#[98,101,115,105,100,101,32] }] 9 (0,0)):=by rw [<- hV1];exact heap_alloc_new _ _
     have hbV1:Below V0.heap.size V0 V1:=by rw [<- hV1];exact (Below.refl _ _).alloc (Nat.le_refl _) _
     have rdV1:=rdV0.keepB hbV1 (by have:=rdV0.2.1;omega) (by have:=rdV0.2.1;omega)
     have gV1:=grown_thenB gV0 (hbV1.mono gV0.size)
     have hzV1:V0.heap.size < V1.heap.size:=by rw [<- hV1];simp
     go_simp
     try rw [hV1]
     refine hK _ _ ?_
     clear hK K
     try rw [hV1]
     clear hV1
     refine wpAny_ready (rs:=[2]) (by kernel_rfl) (by simp) ?_
     refine AllReady.cons rfl (fun K hK=>?_) AllReady.nil
     go_simp
     go_wp2_with (go_at_call 41;refine (c_pickI base r (p+1) 4 V1 rdV1 (by omega) (by omega) (by omega)).mono ?_;rintro e V2 ⟨y4,hy4,rfl,kV2,rdV2⟩)
     first | (refine hK _ _ ?_;clear hK K) | skip
     have gV2:=gV1.trans kV2
     have py40:(0:Int)<=(y4:Int):=by omega
     have py41:(y4:Int) < 4:=by omega
     have bV2:=(kV2.block (V0.heap.size) hzV1 (by have:=rdV0.2.1;simp;omega)).trans bV1
     have hzV2:V0.heap.size < V2.heap.size:=by have:=kV2.size;omega
     refine wpAny_take (i:=3) (v:=?_) rfl (by kernel_rfl) (by kernel_rfl) (by kernel_rfl) (fun _ _ _ h=>h) (Or.inl ⟨?_,?_⟩) ?_
     rotate_left
     ·go_simp
     ·(intro w;go_simp) <;> (with_reducible rfl)
     refine wpAny_ready (rs:=[4,6]) (by kernel_rfl) (by simp) ?_
     refine AllReady.cons rfl (fun K hK=>?_) (AllReady.cons rfl (fun K hK=>?_) (AllReady.nil))
     ·obtain ⟨l4,hl4,hc4⟩:=row4 bV2 (show y4 < 4 by omega)
      go_simp
      refine hK _ _ ?_
      clear hK K
      refine wpAny_ready (rs:=[6]) (by kernel_rfl) (by simp) ?_
      refine AllReady.cons rfl (fun K hK=>?_) AllReady.nil
      go_simp
      go_wp2_with (go_at_call 41;refine (c_pickI base r (p+1+1) 5 V2 rdV2 (by omega) (by omega) (by omega)).mono ?_;rintro e V4 ⟨y5,hy5,rfl,kV4,rdV4⟩)
      first | (refine hK _ _ ?_;clear hK K) | skip
      have gV4:=gV2.trans kV4
      have py50:(0:Int)<=(y5:Int):=by omega
      have py51:(y5:Int) < 5:=by omega
      have bV4:=(kV4.block (V0.heap.size) hzV2 (by have:=rdV0.2.1;simp;omega)).trans bV2
      have hzV4:V0.heap.size < V4.heap.size:=by have:=kV4.size;omega
      refine wpAny_ready (rs:=[7]) (by kernel_rfl) (by simp) ?_
      refine AllReady.cons rfl (fun K hK=>?_) AllReady.nil
      go_simp
      go_wp2_with (go_at_call 65;refine (c_sNumber y5 V4 (by omega)).mono ?_;rintro e V5 ⟨rfl,hbV5⟩)
      first | (refine hK _ _ ?_;clear hK K) | skip
      have rdV5:=rdV4.keepB hbV5 (by have:=rdV4.2.1;omega) (by have:=rdV4.2.1;omega)
      have gV5:=grown_thenB gV4 (hbV5.mono gV4.size)
      have bV5:=(hbV5.block (V0.heap.size) hzV4).trans bV4
      have hzV5:V0.heap.size < V5.heap.size:=by have:=hbV5.size;omega
      have hn5:(numL y5).length<=2:=numL_len 1 y5 (by omega)
      have z8:¬ (9223372036854775807 < (bs l4).size+(bs (numL y5)).size):=by rw [bs_size,bs_size];omega
      refine wpAny_take (i:=8) (v:=?_) rfl (by kernel_rfl) (by kernel_rfl) (by kernel_rfl) (fun _ _ _ h=>h) (Or.inl ⟨?_,?_⟩) ?_
      rotate_left
      ·go_simp
      ·(intro w;go_simp) <;> (with_reducible rfl)
      refine wpAny_take (i:=9) (v:=?_) rfl (by kernel_rfl) (by kernel_rfl) (by kernel_rfl) (fun _ _ _ h=>h) (Or.inl ⟨?_,?_⟩) ?_
      rotate_left
      ·go_simp
      ·(intro w;go_simp) <;> (with_reducible rfl)
      refine wpAny_done (by kernel_rfl) ?_ _
      go_wp2_with fail
      go_ret
      exact ⟨l4++numL y5,by rw [<- bs_append];rfl,by rw [List.length_append];omega,gV5,_,by omega,rdV5⟩
     ·go_simp
      go_wp2_with (go_at_call 41;refine (c_pickI base r (p+1+1) 5 V2 rdV2 (by omega) (by omega) (by omega)).mono ?_;rintro e V6 ⟨y5,hy5,rfl,kV6,rdV6⟩)
      first | (refine hK _ _ ?_;clear hK K) | skip
      have gV6:=gV2.trans kV6
      have py50:(0:Int)<=(y5:Int):=by omega
      have py51:(y5:Int) < 5:=by omega
      have bV6:=(kV6.block (V0.heap.size) hzV2 (by have:=rdV0.2.1;simp;omega)).trans bV2
      have hzV6:V0.heap.size < V6.heap.size:=by have:=kV6.size;omega
      refine wpAny_ready (rs:=[4,7]) (by kernel_rfl) (by simp) ?_
      refine AllReady.cons rfl (fun K hK=>?_) (AllReady.cons rfl (fun K hK=>?_) (AllReady.nil))
      ·obtain ⟨l4,hl4,hc4⟩:=row4 bV6 (show y4 < 4 by omega)
       go_simp
       refine hK _ _ ?_
       clear hK K
       refine wpAny_ready (rs:=[7]) (by kernel_rfl) (by simp) ?_
       refine AllReady.cons rfl (fun K hK=>?_) AllReady.nil
       go_simp
       go_wp2_with (go_at_call 65;refine (c_sNumber y5 V6 (by omega)).mono ?_;rintro e V8 ⟨rfl,hbV8⟩)
       first | (refine hK _ _ ?_;clear hK K) | skip
       have rdV8:=rdV6.keepB hbV8 (by have:=rdV6.2.1;omega) (by have:=rdV6.2.1;omega)
       have gV8:=grown_thenB gV6 (hbV8.mono gV6.size)
       have bV8:=(hbV8.block (V0.heap.size) hzV6).trans bV6
       have hzV8:V0.heap.size < V8.heap.size:=by have:=hbV8.size;omega
       have hn5:(numL y5).length<=2:=numL_len 1 y5 (by omega)
       have z8:¬ (9223372036854775807 < (bs l4).size+(bs (numL y5)).size):=by rw [bs_size,bs_size];omega
       refine wpAny_take (i:=8) (v:=?_) rfl (by kernel_rfl) (by kernel_rfl) (by kernel_rfl) (fun _ _ _ h=>h) (Or.inl ⟨?_,?_⟩) ?_
       rotate_left
       ·go_simp
       ·(intro w;go_simp) <;> (with_reducible rfl)
       refine wpAny_take (i:=9) (v:=?_) rfl (by kernel_rfl) (by kernel_rfl) (by kernel_rfl) (fun _ _ _ h=>h) (Or.inl ⟨?_,?_⟩) ?_
       rotate_left
       ·go_simp
       ·(intro w;go_simp) <;> (with_reducible rfl)
       refine wpAny_done (by kernel_rfl) ?_ _
       go_wp2_with fail
       go_ret
       exact ⟨l4++numL y5,by rw [<- bs_append];rfl,by rw [List.length_append];omega,gV8,_,by omega,rdV8⟩
      ·go_simp
       go_wp2_with (go_at_call 65;refine (c_sNumber y5 V6 (by omega)).mono ?_;rintro e V9 ⟨rfl,hbV9⟩)
       first | (refine hK _ _ ?_;clear hK K) | skip
       have rdV9:=rdV6.keepB hbV9 (by have:=rdV6.2.1;omega) (by have:=rdV6.2.1;omega)
       have gV9:=grown_thenB gV6 (hbV9.mono gV6.size)
       have bV9:=(hbV9.block (V0.heap.size) hzV6).trans bV6
       have hzV9:V0.heap.size < V9.heap.size:=by have:=hbV9.size;omega
       refine wpAny_ready (rs:=[4]) (by kernel_rfl) (by simp) ?_
       refine AllReady.cons rfl (fun K hK=>?_) AllReady.nil
       obtain ⟨l4,hl4,hc4⟩:=row4 bV9 (show y4 < 4 by omega)
       go_simp
       refine hK _ _ ?_
       clear hK K
       have hn5:(numL y5).length<=2:=numL_len 1 y5 (by omega)
       have z8:¬ (9223372036854775807 < (bs l4).size+(bs (numL y5)).size):=by rw [bs_size,bs_size];omega
       refine wpAny_take (i:=8) (v:=?_) rfl (by kernel_rfl) (by kernel_rfl) (by kernel_rfl) (fun _ _ _ h=>h) (Or.inl ⟨?_,?_⟩) ?_
       rotate_left
       ·go_simp
       ·(intro w;go_simp) <;> (with_reducible rfl)
       refine wpAny_take (i:=9) (v:=?_) rfl (by kernel_rfl) (by kernel_rfl) (by kernel_rfl) (fun _ _ _ h=>h) (Or.inl ⟨?_,?_⟩) ?_
       rotate_left
       ·go_simp
       ·(intro w;go_simp) <;> (with_reducible rfl)
       refine wpAny_done (by kernel_rfl) ?_ _
       go_wp2_with fail
       go_ret
       exact ⟨l4++numL y5,by rw [<- bs_append];rfl,by rw [List.length_append];omega,gV9,_,by omega,rdV9⟩
    ·go_simp
     go_wp2_with (go_at_call 41;refine (c_pickI base r (p+1) 4 V0 rdV0 (by omega) (by omega) (by omega)).mono ?_;rintro e V11 ⟨y4,hy4,rfl,kV11,rdV11⟩)
     first | (refine hK _ _ ?_;clear hK K) | skip
     have gV11:=gV0.trans kV11
     have py40:(0:Int)<=(y4:Int):=by omega
     have py41:(y4:Int) < 4:=by omega
     refine wpAny_ready (rs:=[0,6]) (by kernel_rfl) (by simp) ?_
     refine AllReady.cons rfl (fun K hK=>?_) (AllReady.cons rfl (fun K hK=>?_) (AllReady.nil))
     ·obtain ⟨V12,hV12⟩:∃ z,V11.alloc (.cells #[.string { data:=#[119,111,114,107,32] },.string { data:=#[111,114,100,101,114,32] },.string { data:=#[115,117,109,32] },.string { data:=#[98,101,115,105,100,101,32] }] 9)=z:=⟨_,rfl⟩
      have bV12:V12.heap[V11.heap.size]?=some (.cells #[.string { data:=#[119,111,114,107,32] },.string { data:=#[111,114,100,101,114,32] },.string { data:=#[115,117,109,32] },.string { data:=#[98,101,115,105,100,101,32] }] 9 (0,0)):=by rw [<- hV12];exact heap_alloc_new _ _
      have hbV12:Below V11.heap.size V11 V12:=by rw [<- hV12];exact (Below.refl _ _).alloc (Nat.le_refl _) _
      have rdV12:=rdV11.keepB hbV12 (by have:=rdV11.2.1;omega) (by have:=rdV11.2.1;omega)
      have gV12:=grown_thenB gV11 (hbV12.mono gV11.size)
      have hzV12:V11.heap.size < V12.heap.size:=by rw [<- hV12];simp
      go_simp
      try rw [hV12]
      refine hK _ _ ?_
      clear hK K
      try rw [hV12]
      clear hV12
      refine wpAny_take (i:=3) (v:=?_) rfl (by kernel_rfl) (by kernel_rfl) (by kernel_rfl) (fun _ _ _ h=>h) (Or.inl ⟨?_,?_⟩) ?_
      rotate_left
      ·go_simp
      ·(intro w;go_simp) <;> (with_reducible rfl)
      refine wpAny_ready (rs:=[4,6]) (by kernel_rfl) (by simp) ?_
      refine AllReady.cons rfl (fun K hK=>?_) (AllReady.cons rfl (fun K hK=>?_) (AllReady.nil))
      ·obtain ⟨l4,hl4,hc4⟩:=row4 bV12 (show y4 < 4 by omega)
       go_simp
       refine hK _ _ ?_
       clear hK K
       refine wpAny_ready (rs:=[6]) (by kernel_rfl) (by simp) ?_
       refine AllReady.cons rfl (fun K hK=>?_) AllReady.nil
       go_simp
       go_wp2_with (go_at_call 41;refine (c_pickI base r (p+1+1) 5 V12 rdV12 (by omega) (by omega) (by omega)).mono ?_;rintro e V14 ⟨y5,hy5,rfl,kV14,rdV14⟩)
       first | (refine hK _ _ ?_;clear hK K) | skip
       have gV14:=gV12.trans kV14
       have py50:(0:Int)<=(y5:Int):=by omega
       have py51:(y5:Int) < 5:=by omega
       have bV14:=(kV14.block (V11.heap.size) hzV12 (by have:=rdV11.2.1;simp;omega)).trans bV12
       have hzV14:V11.heap.size < V14.heap.size:=by have:=kV14.size;omega
       refine wpAny_ready (rs:=[7]) (by kernel_rfl) (by simp) ?_
       refine AllReady.cons rfl (fun K hK=>?_) AllReady.nil
       go_simp
       go_wp2_with (go_at_call 65;refine (c_sNumber y5 V14 (by omega)).mono ?_;rintro e V15 ⟨rfl,hbV15⟩)
       first | (refine hK _ _ ?_;clear hK K) | skip
       have rdV15:=rdV14.keepB hbV15 (by have:=rdV14.2.1;omega) (by have:=rdV14.2.1;omega)
       have gV15:=grown_thenB gV14 (hbV15.mono gV14.size)
       have bV15:=(hbV15.block (V11.heap.size) hzV14).trans bV14
       have hzV15:V11.heap.size < V15.heap.size:=by have:=hbV15.size;omega
       have hn5:(numL y5).length<=2:=numL_len 1 y5 (by omega)
       have z8:¬ (9223372036854775807 < (bs l4).size+(bs (numL y5)).size):=by rw [bs_size,bs_size];omega
       refine wpAny_take (i:=8) (v:=?_) rfl (by kernel_rfl) (by kernel_rfl) (by kernel_rfl) (fun _ _ _ h=>h) (Or.inl ⟨?_,?_⟩) ?_
       rotate_left
       ·go_simp
       ·(intro w;go_simp) <;> (with_reducible rfl)
       refine wpAny_take (i:=9) (v:=?_) rfl (by kernel_rfl) (by kernel_rfl) (by kernel_rfl) (fun _ _ _ h=>h) (Or.inl ⟨?_,?_⟩) ?_
       rotate_left
       ·go_simp
       ·(intro w;go_simp) <;> (with_reducible rfl)
       refine wpAny_done (by kernel_rfl) ?_ _
       go_wp2_with fail
       go_ret
       exact ⟨l4++numL y5,by rw [<- bs_append];rfl,by rw [List.length_append];omega,gV15,_,by omega,rdV15⟩
      ·go_simp
       go_wp2_with (go_at_call 41;refine (c_pickI base r (p+1+1) 5 V12 rdV12 (by omega) (by omega) (by omega)).mono ?_;rintro e V16 ⟨y5,hy5,rfl,kV16,rdV16⟩)
       first | (refine hK _ _ ?_;clear hK K) | skip
       have gV16:=gV12.trans kV16
       have py50:(0:Int)<=(y5:Int):=by omega
       have py51:(y5:Int) < 5:=by omega
       have bV16:=(kV16.block (V11.heap.size) hzV12 (by have:=rdV11.2.1;simp;omega)).trans bV12
       have hzV16:V11.heap.size < V16.heap.size:=by have:=kV16.size;omega
       refine wpAny_ready (rs:=[4,7]) (by kernel_rfl) (by simp) ?_
       refine AllReady.cons rfl (fun K hK=>?_) (AllReady.cons rfl (fun K hK=>?_) (AllReady.nil))
       ·obtain ⟨l4,hl4,hc4⟩:=row4 bV16 (show y4 < 4 by omega)
        go_simp
        refine hK _ _ ?_
        clear hK K
        refine wpAny_ready (rs:=[7]) (by kernel_rfl) (by simp) ?_
        refine AllReady.cons rfl (fun K hK=>?_) AllReady.nil
        go_simp
        go_wp2_with (go_at_call 65;refine (c_sNumber y5 V16 (by omega)).mono ?_;rintro e V18 ⟨rfl,hbV18⟩)
        first | (refine hK _ _ ?_;clear hK K) | skip
        have rdV18:=rdV16.keepB hbV18 (by have:=rdV16.2.1;omega) (by have:=rdV16.2.1;omega)
        have gV18:=grown_thenB gV16 (hbV18.mono gV16.size)
        have bV18:=(hbV18.block (V11.heap.size) hzV16).trans bV16
        have hzV18:V11.heap.size < V18.heap.size:=by have:=hbV18.size;omega
        have hn5:(numL y5).length<=2:=numL_len 1 y5 (by omega)
        have z8:¬ (9223372036854775807 < (bs l4).size+(bs (numL y5)).size):=by rw [bs_size,bs_size];omega
        refine wpAny_take (i:=8) (v:=?_) rfl (by kernel_rfl) (by kernel_rfl) (by kernel_rfl) (fun _ _ _ h=>h) (Or.inl ⟨?_,?_⟩) ?_
        rotate_left
        ·go_simp
        ·(intro w;go_simp) <;> (with_reducible rfl)
        refine wpAny_take (i:=9) (v:=?_) rfl (by kernel_rfl) (by kernel_rfl) (by kernel_rfl) (fun _ _ _ h=>h) (Or.inl ⟨?_,?_⟩) ?_
        rotate_left
        ·go_simp
        ·(intro w;go_simp) <;> (with_reducible rfl)
        refine wpAny_done (by kernel_rfl) ?_ _
        go_wp2_with fail
        go_ret
        exact ⟨l4++numL y5,by rw [<- bs_append];rfl,by rw [List.length_append];omega,gV18,_,by omega,rdV18⟩
       ·go_simp
        go_wp2_with (go_at_call 65;refine (c_sNumber y5 V16 (by omega)).mono ?_;rintro e V19 ⟨rfl,hbV19⟩)
        first | (refine hK _ _ ?_;clear hK K) | skip
        have rdV19:=rdV16.keepB hbV19 (by have:=rdV16.2.1;omega) (by have:=rdV16.2.1;omega)
        have gV19:=grown_thenB gV16 (hbV19.mono gV16.size)
        have bV19:=(hbV19.block (V11.heap.size) hzV16).trans bV16
        have hzV19:V11.heap.size < V19.heap.size:=by have:=hbV19.size;omega
        refine wpAny_ready (rs:=[4]) (by kernel_rfl) (by simp) ?_
        refine AllReady.cons rfl (fun K hK=>?_) AllReady.nil
        obtain ⟨l4,hl4,hc4⟩:=row4 bV19 (show y4 < 4 by omega)
        go_simp
        refine hK _ _ ?_
        clear hK K
        have hn5:(numL y5).length<=2:=numL_len 1 y5 (by omega)
        have z8:¬ (9223372036854775807 < (bs l4).size+(bs (numL y5)).size):=by rw [bs_size,bs_size];omega
        refine wpAny_take (i:=8) (v:=?_) rfl (by kernel_rfl) (by kernel_rfl) (by kernel_rfl) (fun _ _ _ h=>h) (Or.inl ⟨?_,?_⟩) ?_
        rotate_left
        ·go_simp
        ·(intro w;go_simp) <;> (with_reducible rfl)
        refine wpAny_take (i:=9) (v:=?_) rfl (by kernel_rfl) (by kernel_rfl) (by kernel_rfl) (fun _ _ _ h=>h) (Or.inl ⟨?_,?_⟩) ?_
        rotate_left
        ·go_simp
        ·(intro w;go_simp) <;> (with_reducible rfl)
        refine wpAny_done (by kernel_rfl) ?_ _
        go_wp2_with fail
        go_ret
        exact ⟨l4++numL y5,by rw [<- bs_append];rfl,by rw [List.length_append];omega,gV19,_,by omega,rdV19⟩
     ·go_simp
      go_wp2_with (go_at_call 41;refine (c_pickI base r (p+1+1) 5 V11 rdV11 (by omega) (by omega) (by omega)).mono ?_;rintro e V21 ⟨y5,hy5,rfl,kV21,rdV21⟩)
      first | (refine hK _ _ ?_;clear hK K) | skip
      have gV21:=gV11.trans kV21
      have py50:(0:Int)<=(y5:Int):=by omega
      have py51:(y5:Int) < 5:=by omega
      refine wpAny_ready (rs:=[0,7]) (by kernel_rfl) (by simp) ?_
      refine AllReady.cons rfl (fun K hK=>?_) (AllReady.cons rfl (fun K hK=>?_) (AllReady.nil))
      ·obtain ⟨V22,hV22⟩:∃ z,V21.alloc (.cells #[.string { data:=#[119,111,114,107,32] },.string { data:=#[111,114,100,101,114,32] },.string { data:=#[115,117,109,32] },.string { data:=#[98,101,115,105,100,101,32] }] 9)=z:=⟨_,rfl⟩
       have bV22:V22.heap[V21.heap.size]?=some (.cells #[.string { data:=#[119,111,114,107,32] },.string { data:=#[111,114,100,101,114,32] },.string { data:=#[115,117,109,32] },.string { data:=#[98,101,115,105,100,101,32] }] 9 (0,0)):=by rw [<- hV22];exact heap_alloc_new _ _
       have hbV22:Below V21.heap.size V21 V22:=by rw [<- hV22];exact (Below.refl _ _).alloc (Nat.le_refl _) _
       have rdV22:=rdV21.keepB hbV22 (by have:=rdV21.2.1;omega) (by have:=rdV21.2.1;omega)
       have gV22:=grown_thenB gV21 (hbV22.mono gV21.size)
       have hzV22:V21.heap.size < V22.heap.size:=by rw [<- hV22];simp
       go_simp
       try rw [hV22]
       refine hK _ _ ?_
       clear hK K
       try rw [hV22]
       clear hV22
       refine wpAny_take (i:=3) (v:=?_) rfl (by kernel_rfl) (by kernel_rfl) (by kernel_rfl) (fun _ _ _ h=>h) (Or.inl ⟨?_,?_⟩) ?_
       rotate_left
       ·go_simp
       ·(intro w;go_simp) <;> (with_reducible rfl)
       refine wpAny_ready (rs:=[4,7]) (by kernel_rfl) (by simp) ?_
       refine AllReady.cons rfl (fun K hK=>?_) (AllReady.cons rfl (fun K hK=>?_) (AllReady.nil))
       ·obtain ⟨l4,hl4,hc4⟩:=row4 bV22 (show y4 < 4 by omega)
        go_simp
        refine hK _ _ ?_
        clear hK K
        refine wpAny_ready (rs:=[7]) (by kernel_rfl) (by simp) ?_
        refine AllReady.cons rfl (fun K hK=>?_) AllReady.nil
        go_simp
        go_wp2_with (go_at_call 65;refine (c_sNumber y5 V22 (by omega)).mono ?_;rintro e V24 ⟨rfl,hbV24⟩)
        first | (refine hK _ _ ?_;clear hK K) | skip
        have rdV24:=rdV22.keepB hbV24 (by have:=rdV22.2.1;omega) (by have:=rdV22.2.1;omega)
        have gV24:=grown_thenB gV22 (hbV24.mono gV22.size)
        have bV24:=(hbV24.block (V21.heap.size) hzV22).trans bV22
        have hzV24:V21.heap.size < V24.heap.size:=by have:=hbV24.size;omega
        have hn5:(numL y5).length<=2:=numL_len 1 y5 (by omega)
        have z8:¬ (9223372036854775807 < (bs l4).size+(bs (numL y5)).size):=by rw [bs_size,bs_size];omega
        refine wpAny_take (i:=8) (v:=?_) rfl (by kernel_rfl) (by kernel_rfl) (by kernel_rfl) (fun _ _ _ h=>h) (Or.inl ⟨?_,?_⟩) ?_
        rotate_left
        ·go_simp
        ·(intro w;go_simp) <;> (with_reducible rfl)
        refine wpAny_take (i:=9) (v:=?_) rfl (by kernel_rfl) (by kernel_rfl) (by kernel_rfl) (fun _ _ _ h=>h) (Or.inl ⟨?_,?_⟩) ?_
        rotate_left
        ·go_simp
        ·(intro w;go_simp) <;> (with_reducible rfl)
        refine wpAny_done (by kernel_rfl) ?_ _
        go_wp2_with fail
        go_ret
        exact ⟨l4++numL y5,by rw [<- bs_append];rfl,by rw [List.length_append];omega,gV24,_,by omega,rdV24⟩
       ·go_simp
        go_wp2_with (go_at_call 65;refine (c_sNumber y5 V22 (by omega)).mono ?_;rintro e V25 ⟨rfl,hbV25⟩)
        first | (refine hK _ _ ?_;clear hK K) | skip
        have rdV25:=rdV22.keepB hbV25 (by have:=rdV22.2.1;omega) (by have:=rdV22.2.1;omega)
        have gV25:=grown_thenB gV22 (hbV25.mono gV22.size)
        have bV25:=(hbV25.block (V21.heap.size) hzV22).trans bV22
        have hzV25:V21.heap.size < V25.heap.size:=by have:=hbV25.size;omega
        refine wpAny_ready (rs:=[4]) (by kernel_rfl) (by simp) ?_
        refine AllReady.cons rfl (fun K hK=>?_) AllReady.nil
        obtain ⟨l4,hl4,hc4⟩:=row4 bV25 (show y4 < 4 by omega)
        go_simp
        refine hK _ _ ?_
        clear hK K
        have hn5:(numL y5).length<=2:=numL_len 1 y5 (by omega)
        have z8:¬ (9223372036854775807 < (bs l4).size+(bs (numL y5)).size):=by rw [bs_size,bs_size];omega
        refine wpAny_take (i:=8) (v:=?_) rfl (by kernel_rfl) (by kernel_rfl) (by kernel_rfl) (fun _ _ _ h=>h) (Or.inl ⟨?_,?_⟩) ?_
        rotate_left
        ·go_simp
        ·(intro w;go_simp) <;> (with_reducible rfl)
        refine wpAny_take (i:=9) (v:=?_) rfl (by kernel_rfl) (by kernel_rfl) (by kernel_rfl) (fun _ _ _ h=>h) (Or.inl ⟨?_,?_⟩) ?_
        rotate_left
        ·go_simp
        ·(intro w;go_simp) <;> (with_reducible rfl)
        refine wpAny_done (by kernel_rfl) ?_ _
        go_wp2_with fail
        go_ret
        exact ⟨l4++numL y5,by rw [<- bs_append];rfl,by rw [List.length_append];omega,gV25,_,by omega,rdV25⟩
      ·go_simp
       go_wp2_with (go_at_call 65;refine (c_sNumber y5 V21 (by omega)).mono ?_;rintro e V27 ⟨rfl,hbV27⟩)
       first | (refine hK _ _ ?_;clear hK K) | skip
       have rdV27:=rdV21.keepB hbV27 (by have:=rdV21.2.1;omega) (by have:=rdV21.2.1;omega)
       have gV27:=grown_thenB gV21 (hbV27.mono gV21.size)
       refine wpAny_ready (rs:=[0]) (by kernel_rfl) (by simp) ?_
       refine AllReady.cons rfl (fun K hK=>?_) AllReady.nil
       obtain ⟨V28,hV28⟩:∃ z,V27.alloc (.cells #[.string { data:=#[119,111,114,107,32] },.string { data:=#[111,114,100,101,114,32] },.string { data:=#[115,117,109,32] },.string { data:=#[98,101,115,105,100,101,32] }] 9)=z:=⟨_,rfl⟩
       have bV28:V28.heap[V27.heap.size]?=some (.cells #[.string { data:=#[119,111,114,107,32] },.string { data:=#[111,114,100,101,114,32] },.string { data:=#[115,117,109,32] },.string { data:=#[98,101,115,105,100,101,32] }] 9 (0,0)):=by rw [<- hV28];exact heap_alloc_new _ _
       have hbV28:Below V27.heap.size V27 V28:=by rw [<- hV28];exact (Below.refl _ _).alloc (Nat.le_refl _) _
       have rdV28:=rdV27.keepB hbV28 (by have:=rdV27.2.1;omega) (by have:=rdV27.2.1;omega)
       have gV28:=grown_thenB gV27 (hbV28.mono gV27.size)
       have hzV28:V27.heap.size < V28.heap.size:=by rw [<- hV28];simp
       go_simp
       try rw [hV28]
       refine hK _ _ ?_
       clear hK K
       try rw [hV28]
       clear hV28
       refine wpAny_take (i:=3) (v:=?_) rfl (by kernel_rfl) (by kernel_rfl) (by kernel_rfl) (fun _ _ _ h=>h) (Or.inl ⟨?_,?_⟩) ?_
       rotate_left
       ·go_simp
       ·(intro w;go_simp) <;> (with_reducible rfl)
       refine wpAny_ready (rs:=[4]) (by kernel_rfl) (by simp) ?_
       refine AllReady.cons rfl (fun K hK=>?_) AllReady.nil
       obtain ⟨l4,hl4,hc4⟩:=row4 bV28 (show y4 < 4 by omega)
       go_simp
       refine hK _ _ ?_
       clear hK K
       have hn5:(numL y5).length<=2:=numL_len 1 y5 (by omega)
       have z8:¬ (9223372036854775807 < (bs l4).size+(bs (numL y5)).size):=by rw [bs_size,bs_size];omega
       refine wpAny_take (i:=8) (v:=?_) rfl (by kernel_rfl) (by kernel_rfl) (by kernel_rfl) (fun _ _ _ h=>h) (Or.inl ⟨?_,?_⟩) ?_
       rotate_left
       ·go_simp
       ·(intro w;go_simp) <;> (with_reducible rfl)
       refine wpAny_take (i:=9) (v:=?_) rfl (by kernel_rfl) (by kernel_rfl) (by kernel_rfl) (fun _ _ _ h=>h) (Or.inl ⟨?_,?_⟩) ?_
       rotate_left
       ·go_simp
       ·(intro w;go_simp) <;> (with_reducible rfl)
       refine wpAny_done (by kernel_rfl) ?_ _
       go_wp2_with fail
       go_ret
       exact ⟨l4++numL y5,by rw [<- bs_append];rfl,by rw [List.length_append];omega,gV28,_,by omega,rdV28⟩
   ·have d4:((x:Int) == 4)=false:=beq_eq_false_iff_ne.2 (by omega)
    have HL:=Lib.hid (c_l20Deed base r (p+1) L A c w1 hr1 (by omega) hL hbd (fun W hg=>HA.out W (hg1.trans hg)))
    clear h0 h3 h4
    go_wp2_with fail
    refine HL.out.mono ?_
    rintro e w5 ⟨dk,da,db,rfl,hdk,hda,hdb,hg5,q5,hq5,hr5⟩
    have g5:=hg1.trans hg5
    have HT:=Lib.hid (c_sDeedText dk da db w5)
    have hlen:=deedL_len ⟨dk,da,db⟩
    generalize deedL ⟨dk,da,db⟩=l at HT hlen
    go_wp2_with fail
    refine HT.out.mono ?_
    rintro e w6 ⟨rfl,hb6⟩
    go_wp2_with fail
    go_ret
    exact ⟨l,rfl,by omega,grown_thenB g5 (hb6.mono g5.size),q5,by omega,hr5.keepB hb6 (by have:=hr5.2.1;omega) (by have:=hr5.2.1;omega)⟩
end
section
attribute [local go_sem ↓] Go.wp_at_zero Go.wp_at_succ
def z41s:Array Value:=madeCells #[.string ⟨#[]⟩] (41 * 1)
theorem z41s_list:z41s.toList=(List.replicate 41 ([]:List UInt8)).map sv:=by kernel_rfl
theorem run_make41s (W:World):(Instr.makeSlice 48 (.int .i64 41) (.int .i64 41)).run Tryz.prog W=.ok (.slice (some ⟨W.heap.size,0,none⟩) 41 41) (W.alloc (.cells z41s 9)):=by
 obtain ⟨i0,hi,hz0,hz1,hz2⟩:=info_parts infoStr
 have:=run_make (P:=Tryz.prog) W 48 9 i0 _ Tryz.underlying48 hi hz0 .i64 .i64 41 41 (by omega) (by omega) (by rw [hz2];omega) (by omega)
 rw [hz1] at this
 exact this
theorem SO.made (W:World) {base:Nat} (h:base<=W.heap.size):SO (W.alloc (.cells z41s 9)) base (.slice (some ⟨W.heap.size,0,none⟩) 41 41) (List.replicate 41 []):=by
 refine ⟨by simp,.inr ⟨W.heap.size,41,z41s,by simp,h,heap_alloc_new _ _,by simp,by simp [maxLen],by simp [z41s,size_madeCells],?_⟩⟩
 rw [<- z41s_list]
 exact List.take_of_length_le (by simp [z41s,size_madeCells])
theorem SO.grown7 {w w':World} {base:Nat} {row:Option Nat} {v:Value} {xs:List (List UInt8)} (h:SO w base v xs) (hg:w.grownBy w' row) (hr:∀ r,row=some r->r < base):SO w' base v xs:=by
 refine ⟨h.1,?_⟩
 have hl:=owns_lt h
 rcases h.2 with h2 | ⟨g,cap,cur,rfl,hgb,hh,rest⟩
 ·exact .inl h2
 ·have:=hl g (by simp [Value.ownBlock])
  exact .inr ⟨g,cap,cur,rfl,hgb,by rw [hg.block g (by omega) (fun e=>by have:=hr _ e.symm;omega)];exact hh,rest⟩
theorem c_DrawDeskSay (A:Option Addr) (n c:Nat) (w:World) (h:Bs w w.heap.size A n) (hn:n<=1048576) (hc:n<=c) :
  Calls Tryz.prog 24 #[.slice A n c] w fun e w'=>∃ vn vp D v ls,e=.returned (.tuple #[.agg #[vn,vp],v])∧DskP w' w.heap.size vn vp D∧SO w' w.heap.size v ls∧ls.length<=41∧(∀ l ∈ ls,l.length<=40)∧Below w.heap.size w w':=by
 obtain ⟨w0,hw0⟩:∃ w0,w.alloc (.cells #[.slice none 0 0,.slice none 0 0] 31)=w0:=⟨_,rfl⟩
 have hz0:w0.heap.size=w.heap.size+1:=by rw [<- hw0];simp
 have hb0:Below w.heap.size w w0:=by rw [<- hw0];exact (Below.refl _ w).alloc (Nat.le_refl _) _
 have bR:w0.heap[w.heap.size]?=some (.cells #[.slice none 0 0,.slice none 0 0] 31 (0,0)):=by rw [<- hw0];exact heap_alloc_new _ _
 have h0:Bs w0 w.heap.size A n:=h.upto hb0 (Nat.le_refl _)
 clear h
 go_enter Tryz.func24,Tryz.ntmps24
 go_wp2_with fail
 clear hw0
 refine (c_l20OpenB A n c _ w.heap.size h0 (by omega) hn hc).mono ?_
 rintro e w1 ⟨r,rfl,hr,hrz,hb1⟩
 have hs1:=hb1.size
 have hrb:=hr.1
 have hrl:=hr.2.1
 have b1:=(hb1.block w.heap.size (by omega)).trans bR
 have hx1:=hb0.trans (hb1.mono (by omega))
 clear bR h0 hb1
 go_wp2_with fail
 refine (c_l20Desk w.heap.size r 0 12 _ hr (by omega) (by omega) (by omega)).mono ?_
 rintro e w2 ⟨vn,vp,D,rfl,hD,hg2,p2,hp2,hr2⟩
 have b2:=blk1 hg2 (show r≠w.heap.size by omega) b1
 have hx2:=hx1.trans (below_grown hg2 (show w.heap.size<=r by omega) (by omega))
 have hs2:=hg2.size
 obtain ⟨X1,x1,X2,x2,rfl,rfl⟩:=hD.now.slices
 obtain ⟨w3,hw3⟩:∃ w3,w2.alloc (.cells #[.slice X1 D.now.length x1,.slice X2 D.past.length x2] 31)=w3:=⟨_,rfl⟩
 have hz3:w3.heap.size=w2.heap.size+1:=by rw [<- hw3];simp
 have hb3:Below w2.heap.size w2 w3:=by rw [<- hw3];exact (Below.refl _ w2).alloc (Nat.le_refl _) _
 have bD:w3.heap[w2.heap.size]?=some (.cells #[.slice X1 D.now.length x1,.slice X2 D.past.length x2] 31 (0,0)):=by rw [<- hw3];exact heap_alloc_new _ _
 have hD3:=hD.below hb3 (Nat.le_refl _)
 have r3:=hr2.keepB hb3 (by omega) (by omega)
 have b3:=(hb3.block w.heap.size (by omega)).trans b2
 have hx3:=hx2.trans (hb3.mono (by omega))
 have hs3:=hb3.size
 clear hb3 hb0 hx1 hx2 b1 b2 hr hr2 hg2 hD
 have hz3l:w2.heap.size < w3.heap.size:=by omega
 clear hz3
 obtain ⟨w4,hw4⟩:∃ z,w3.alloc (.cells #[] 9)=z:=⟨_,rfl⟩
 have hb4:Below w3.heap.size w3 w4:=by rw [<- hw4];exact (Below.refl _ w3).alloc (Nat.le_refl _) _
 have g4:w3.grownBy w4 (some r):=by rw [<- hw4];exact World.grownBy_alloc _ _ _
 have o4:SO w4 w3.heap.size (.slice (some ⟨w3.heap.size,0,none⟩) 0 0) []:=by rw [<- hw4];exact SO.empty _ (Nat.le_refl _)
 have r4:=r3.keepB hb4 (by omega) (by omega)
 have hz4:=hb4.size
 clear hb4
 go_wp2_with fail
 clear hw3 hw4
 refine (c_pickI w.heap.size r p2 7 _ r4 (by omega) (by omega) (by omega)).mono ?_
 rintro e w5 ⟨x,hx,rfl,hg5,r5⟩
 have g5:=g4.trans hg5
 have o5:SO w5 w3.heap.size (.slice (some ⟨w3.heap.size,0,none⟩) 0 0) []:=o4.grown7 hg5 (fun k e=>by cases e;omega)
 clear g4 o4 hg5 r4
 go_wp2_with fail
 go_loopw [6,7] (fun v kv wr=>∃ (k q:Nat) (ls:List (List UInt8)),kv=.int .i64 (k:Int)∧k+ls.length<=6∧q+20 * k<=p2+121∧SO wr w3.heap.size v ls∧(∀ l ∈ ls,l.length<=40)∧w3.grownBy wr (some r)∧Rd wr w.heap.size r q) (fun _ kv _=>(intOf kv).toNat)
 case atStart=>exact ⟨x,p2+1,[],rfl,by simp;omega,by omega,o5,by simp,g5,r5⟩
 case round =>
  clear g5 o5 r5
  obtain ⟨k,q,ls,rfl,hk,hq,own,h40,gr,rd⟩:=hrel
  have hsr:=gr.size
  have dr:=blk1 gr (show r≠w2.heap.size by omega) bD
  have br:=blk1 gr (show r≠w.heap.size by omega) b3
  have hDr:=hD3.low gr (show r < w1.heap.size by omega)
  have hxr:=hx3.trans (below_grown gr (show w.heap.size<=r by omega) (by omega))
  obtain ⟨q0,q1,-,-⟩:=two_at dr
  by_cases hk0:0 < k
  ·clear br hxr
   have HL:=Lib.hid (c_l20Line w.heap.size r q D.now X1 x1 wr rd (by omega) hDr.len hDr.bd (hDr.cs (show r < w1.heap.size by omega)).2)
   clear hDr
   go_wp2_with fail
   refine HL.out.mono ?_
   rintro e w6 ⟨l,rfl,hl,hg6,q6,hq6,r6⟩
   have g6:=gr.trans hg6
   have o6:=own.grown7 hg6 (fun k e=>by cases e;omega)
   have hs6:=g6.size
   clear gr own hg6 rd HL q0 q1 dr
   go_wp2_with (refine app_S ?_ (.tmp 19) (.tmp 24) ?_ w3.heap.size u6 ls l w6.heap.size ?_ ?_ ?_ ?_ ?_ ?_ ?_;rfl;rfl;rfl;exact (o6.alloc _);rfl;exact (heap_alloc_new _ _);omega;(first | omega | (simp;omega));intro g cap w7 hown7 hgr7 hb7)
   have hb7':Below w3.heap.size w6 w7:=Below.trans (by (repeat (first | exact rfl | exact Below.refl _ _ | (with_reducible refine Below.drew ?_) | (with_reducible refine Below.drewN ?_ _) | (with_reducible refine Below.alloc ?_ ?_ _) | (with_reducible refine Below.setCell ?_ ?_ _) | (show _<=_;focus (first | omega | (simp;done) | (simp;omega)))))) hb7
   have g7:=grown_thenB g6 hb7'
   have r7:=r6.keepB hb7' (by omega) (by omega)
   go_wp2_with fail
   go_roundw
   case rel=>exact ⟨k - 1,q6,ls++[l],by go_num,by simp;omega,by omega,by simpa using hown7,by (intro z hz;rcases List.mem_append.1 hz with hz | hz;exact h40 z hz;rw [List.mem_singleton.1 hz];exact hl),g7,r7⟩
   case measure=>simp [intOf];omega
  ·clear q0 q1 bD b3 hD3 r3 hx3
   go_wp2_with fail
   refine (c_odd w.heap.size r q 30 _ rd (by omega) (by omega) (by omega)).mono ?_
   rintro e w8 ⟨o,rfl,hg8,-⟩
   have b8:=blk1 hg8 (show r≠w.heap.size by omega) br
   have d8:=blk1 hg8 (show r≠w2.heap.size by omega) dr
   have hD8:=hDr.low hg8 (by omega)
   have hx8:=hxr.trans (below_grown hg8 (show w.heap.size<=r by omega) (by omega))
   have o8:=own.grown7 hg8 (fun k e=>by cases e;omega)
   have hs8:=hg8.size
   clear br dr hDr hxr own rd hg8 gr
   cases o with
   | true =>
    have hmk:=run_make41s
    obtain ⟨wm,hwm⟩:∃ z,w8.alloc (.cells z41s 9)=z:=⟨_,rfl⟩
    have hbm:Below w8.heap.size w8 wm:=by rw [<- hwm];exact (Below.refl _ w8).alloc (Nat.le_refl _) _
    have hzm:=hbm.size
    have oM:SO wm w8.heap.size (.slice (some ⟨w8.heap.size,0,none⟩) 41 41) (List.replicate 41 []):=by rw [<- hwm];exact SO.made _ (Nat.le_refl _)
    have bm:=(hbm.block w.heap.size (by omega)).trans b8
    have dm:=(hbm.block w2.heap.size (by omega)).trans d8
    have hDm:=hD8.below hbm (Nat.le_refl _)
    have hxm:=hx8.trans (hbm.mono (by omega))
    clear hbm b8 d8 hD8 hx8 o8
    obtain ⟨r0,r1,f0,f1⟩:=two_at bm
    obtain ⟨v0,v1,-,-⟩:=two_at dm
    obtain ⟨Sa,hSa⟩:∃ z,wm.setCell ⟨w.heap.size,0,none⟩ (.slice X1 D.now.length x1)=z:=⟨_,rfl⟩
    obtain ⟨Sb,hSb⟩:∃ z,Sa.setCell ⟨w.heap.size,1,none⟩ (.slice X2 D.past.length x2)=z:=⟨_,rfl⟩
    have sa:Sa.heap[w.heap.size]?=some (.cells #[(.slice X1 D.now.length x1),.slice none 0 0] 31 (0,0)):=by rw [<- hSa];exact set2a _ bm
    have s:Sb.heap[w.heap.size]?=some (.cells #[(.slice X1 D.now.length x1),(.slice X2 D.past.length x2)] 31 (0,0)):=by rw [<- hSb];exact set2b _ sa
    obtain ⟨-,r3,-,f3⟩:=two_at sa
    have sg:wm.grownBy Sb (some w.heap.size):=by rw [<- hSb,<- hSa];exact W2_grown _ _ _ _
    have zs:=World.grownBy.size sg
    have oS:SO Sb w.heap.size (.slice (some ⟨w8.heap.size,0,none⟩) 41 41) (List.replicate 41 []):=(oM.grown7 sg (fun k e=>by cases e;omega)).mono (by omega)
    have hDS:=hDm.low sg (show w.heap.size < w1.heap.size by omega)
    have hXS:=hxm.grown sg (by omega) (fun k e=>by cases e;exact Nat.le_refl _)
    clear bm dm hDm hxm oM
    go_wp2_with fail
    have k0:=cell_of_row _ w.heap.size 0 _ _ _ s
    have k1:=cell_of_row _ w.heap.size 1 _ _ _ s
    refine bodyPost_ret (v:=.tuple #[.agg #[(.slice X1 D.now.length x1),(.slice X2 D.past.length x2)],.slice (some ⟨w8.heap.size,0,none⟩) 41 41]) (by simp [results,Tryz.f24,go_sem,k0,k1]) rfl ?_
    exact ⟨_,_,D,_,_,rfl,hDS.mono (by omega),oS,by simp,by simp,hXS⟩
   | false =>
    obtain ⟨r0,r1,f0,f1⟩:=two_at b8
    obtain ⟨v0,v1,-,-⟩:=two_at d8
    obtain ⟨Sa,hSa⟩:∃ z,w8.setCell ⟨w.heap.size,0,none⟩ (.slice X1 D.now.length x1)=z:=⟨_,rfl⟩
    obtain ⟨Sb,hSb⟩:∃ z,Sa.setCell ⟨w.heap.size,1,none⟩ (.slice X2 D.past.length x2)=z:=⟨_,rfl⟩
    have sa:Sa.heap[w.heap.size]?=some (.cells #[(.slice X1 D.now.length x1),.slice none 0 0] 31 (0,0)):=by rw [<- hSa];exact set2a _ b8
    have s:Sb.heap[w.heap.size]?=some (.cells #[(.slice X1 D.now.length x1),(.slice X2 D.past.length x2)] 31 (0,0)):=by rw [<- hSb];exact set2b _ sa
    obtain ⟨-,r3,-,f3⟩:=two_at sa
    have sg:w8.grownBy Sb (some w.heap.size):=by rw [<- hSb,<- hSa];exact W2_grown _ _ _ _
    have zs:=World.grownBy.size sg
    have oS:=(o8.grown7 sg (fun k e=>by cases e;omega)).mono (show w.heap.size<=w3.heap.size by omega)
    have hDS:=hD8.low sg (show w.heap.size < w1.heap.size by omega)
    have hXS:=hx8.grown sg (by omega) (fun k e=>by cases e;exact Nat.le_refl _)
    clear b8 d8 hD8 hx8 o8
    go_wp2_with fail
    have k0:=cell_of_row _ w.heap.size 0 _ _ _ s
    have k1:=cell_of_row _ w.heap.size 1 _ _ _ s
    refine bodyPost_ret (v:=.tuple #[.agg #[(.slice X1 D.now.length x1),(.slice X2 D.past.length x2)],u6]) (by simp [results,Tryz.f24,go_sem,k0,k1]) rfl ?_
    exact ⟨_,_,D,_,_,rfl,hDS.mono (by omega),oS,by omega,h40,hXS⟩
end
section
attribute [local go_sem ↓] Go.wp_at_zero Go.wp_at_succ
theorem c_sameCus (L M:List (Int×Int)) (A B:Option Addr) (BA BB c d:Nat) (w:World) (hA:Cs w BA A L) (hB:Cs w BB B M) (hx:L.length<=140737488351232) (hy:M.length<=140737488351232) :
  Calls Tryz.prog 60 #[.slice A L.length c,.slice B M.length d] w fun e w'=>e=.returned (.bool (decide (L=M)))∧Below w.heap.size w w':=by
 go_enter Tryz.func60,Tryz.ntmps60
 by_cases hl:L.length=M.length
 ·have hd:((L.length:Int) != (M.length:Int))=false:=by simp [hl]
  have HL:=Lib.hid hl
  clear hl
  go_wp2_with fail
  go_loopw [5] (fun i wr=>∃ k n:Nat,k<=L.length∧i=.int .i64 k∧wr=w.drewN n∧Hid (∀ i,i < k->X L i=X M i∧Y L i=Y M i)) (fun i _=>L.length - (intOf i).toNat)
  case atStart=>exact ⟨0,0,Nat.zero_le _,rfl,rfl,Lib.hid fun i h=>by omega⟩
  case round =>
   obtain ⟨k,n,hk,rfl,rfl,HE⟩:=hrel
   by_cases hlt:k < L.length
   ·have hlm:k < M.length:=by have:=HL.out;omega
    obtain ⟨b,off,rfl,hlb,hc⟩:=hA (by omega)
    obtain ⟨b2,off2,rfl,hlb2,hc2⟩:=hB (by omega)
    obtain ⟨c1,c3⟩:=hc k hlt
    obtain ⟨c2,c4⟩:=hc2 k hlm
    have hNE:¬ (X L k=X M k∧Y L k=Y M k)->¬ L=M:=fun h e=>h (by rw [e];exact ⟨rfl,rfl⟩)
    clear hc hc2
    by_cases e1:X L k=X M k
    ·by_cases e2:Y L k=Y M k
     ·rw [<- e1] at c2
      rw [<- e2] at c4
      have HE2:Hid (∀ i,i < k+1->X L i=X M i∧Y L i=Y M i):=Lib.hid fun i hi=>by
       by_cases e:i=k
       ·subst e;exact ⟨e1,e2⟩
       ·exact HE.out i (by omega)
      clear e1 e2 hNE
      go_wp2_with fail
      go_quiet (fail)
      go_wp2_with fail
      go_roundw
      case rel=>exact ⟨k+1,_,by omega,by go_num,rfl,HE2⟩
      case measure=>simp [intOf];omega
     ·have f2:(Y L k != Y M k)=true:=by simpa using e2
      have f3:(Y L k == Y M k)=false:=by simpa using e2
      have HN:=Lib.hid (hNE fun h=>e2 h.2)
      rw [<- e1] at c2
      clear e1 e2 hNE
      go_wp2_with fail
      go_quiet (fail)
      go_wp2_with fail
      go_ret
      exact ⟨by rw [decide_eq_false HN.out];rfl,by (repeat (first | exact rfl | exact Below.refl _ _ | (with_reducible refine Below.drew ?_) | (with_reducible refine Below.drewN ?_ _) | (with_reducible refine Below.alloc ?_ ?_ _) | (with_reducible refine Below.setCell ?_ ?_ _) | (show _<=_;focus (first | omega | (simp;done) | (simp;omega)))))⟩
    ·have f2:(X L k != X M k)=true:=by simpa using e1
     have f3:(X L k == X M k)=false:=by simpa using e1
     have HN:=Lib.hid (hNE fun h=>e1 h.1)
     clear e1 hNE
     go_wp2_with fail
     go_quiet (fail)
     go_wp2_with fail
     go_ret
     exact ⟨by rw [decide_eq_false HN.out];rfl,by (repeat (first | exact rfl | exact Below.refl _ _ | (with_reducible refine Below.drew ?_) | (with_reducible refine Below.drewN ?_ _) | (with_reducible refine Below.alloc ?_ ?_ _) | (with_reducible refine Below.setCell ?_ ?_ _) | (show _<=_;focus (first | omega | (simp;done) | (simp;omega)))))⟩
   ·go_wp2_with fail
    go_ret
    have hLM:L=M:=by
     refine List.ext_getElem HL.out fun i h1 h2=>?_
     have:=HE.out i (by omega)
     have e1:L[i]=(X L i,Y L i):=by simp [X,Y,h1]
     have e2:M[i]=(X M i,Y M i):=by simp [X,Y,h2]
     rw [e1,e2,this.1,this.2]
    exact ⟨by rw [decide_eq_true hLM];rfl,by (repeat (first | exact rfl | exact Below.refl _ _ | (with_reducible refine Below.drew ?_) | (with_reducible refine Below.drewN ?_ _) | (with_reducible refine Below.alloc ?_ ?_ _) | (with_reducible refine Below.setCell ?_ ?_ _) | (show _<=_;focus (first | omega | (simp;done) | (simp;omega)))))⟩
 ·have hd:((L.length:Int) != (M.length:Int))=true:=by simpa using fun h:(L.length:Int)=M.length=>hl (by omega)
  have HL:=Lib.hid hl
  clear hl
  go_wp2_with fail
  go_ret
  exact ⟨by rw [decide_eq_false (show ¬ L=M from fun h=>HL.out (by rw [h]))];rfl,by (repeat (first | exact rfl | exact Below.refl _ _ | (with_reducible refine Below.drew ?_) | (with_reducible refine Below.drewN ?_ _) | (with_reducible refine Below.alloc ?_ ?_ _) | (with_reducible refine Below.setCell ?_ ?_ _) | (show _<=_;focus (first | omega | (simp;done) | (simp;omega)))))⟩
def eqK (D E:KV):Bool:=decide (D.now=E.now) && decide (D.past=E.past)
theorem eqK_self (D:KV):eqK D D=true:=by simp [eqK]
theorem LL_ext {P Q:List (List (Int×Int))} (hl:P.length=Q.length) (h:∀ k,k < P.length->LL P k=LL Q k):P=Q:=by
 refine List.ext_getElem hl fun i h1 h2=>?_
 have:=h i h1
 rwa [LL_get h1,LL_get h2] at this
theorem c_sameDesk (D E:KV) (vn vp un up:Value) (w:World) (hK:Ks w w.heap.size vn vp D) (hE:Ks w w.heap.size un up E) (hs:SmallK D) (ht:SmallK E) :
  Calls Tryz.prog 18 #[.agg #[vn,vp],.agg #[un,up]] w fun e w'=>e=.returned (.bool (eqK D E))∧Below w.heap.size w w':=by
 obtain ⟨w0,hw0⟩:∃ w0,(w.alloc (.cells #[vn,vp] 31)).alloc (.cells #[un,up] 31)=w0:=⟨_,rfl⟩
 have hz0:w0.heap.size=w.heap.size+2:=by rw [<- hw0];simp
 have hb0:Below w.heap.size w w0:=by rw [<- hw0];exact ((Below.refl _ w).alloc (Nat.le_refl _) _).alloc (by simp) _
 have bD:w0.heap[w.heap.size]?=some (.cells #[vn,vp] 31 (0,0)):=by rw [<- hw0];exact (Below.heap_alloc _ _ _ (by simp)).trans (heap_alloc_new _ _)
 have bE:w0.heap[w.heap.size+1]?=some (.cells #[un,up] 31 (0,0)):=by rw [<- hw0];exact heap_newK _ _ _
 have hK0:=(hK.below hb0).more (show w.heap.size<=w0.heap.size by omega)
 have hE0:=(hE.below hb0).more (show w.heap.size<=w0.heap.size by omega)
 obtain ⟨⟨An,cn,rfl,hcn,hN⟩,Ap,cp,rfl,hcp,hP⟩:=hK0
 obtain ⟨⟨Bn,dn,rfl,hdn,hM⟩,Bp,dp,rfl,hdp,hQ⟩:=hE0
 obtain ⟨hs1,hs2,hs3⟩:=hs
 obtain ⟨ht1,ht2,ht3⟩:=ht
 have HN:=Lib.hid (fun W (hb:Below w0.heap.size w0 W)=>c_sameCus D.now E.now An Bn w0.heap.size w0.heap.size cn dn W (hN.below hb) (hM.below hb) (by omega) (by omega))
 have d1:=cell_of_row _ w.heap.size 0 _ _ _ bD
 have d2:=cell_of_row _ w.heap.size 1 _ _ _ bD
 have e1:=cell_of_row _ (w.heap.size+1) 0 _ _ _ bE
 have e2:=cell_of_row _ (w.heap.size+1) 1 _ _ _ bE
 clear hK hE hN hM
 go_enter Tryz.func18,Tryz.ntmps18
 go_wp2_with fail
 refine (HN.out _ (Below.refl _ _)).mono ?_
 rintro e w1 ⟨rfl,hb1⟩
 clear hw0
 have hs1':=hb1.size
 have HCs:=Lib.hid (fun W (hb:Below w0.heap.size w0 W)=>show (W.cell? ⟨w.heap.size,1,none⟩=some (.slice Ap D.past.length cp))∧(W.cell? ⟨w.heap.size+1,1,none⟩=some (.slice Bp E.past.length dp)) from ⟨(hb.cell (p:=⟨w.heap.size,1,none⟩) (show w.heap.size < w0.heap.size by omega)).trans d2,(hb.cell (p:=⟨w.heap.size+1,1,none⟩) (show w.heap.size+1 < w0.heap.size by omega)).trans e2⟩)
 clear d1 d2 e1 e2
 obtain ⟨d2,e2⟩:=HCs.out _ hb1
 by_cases hne:D.now=E.now
 ·have HD:=Lib.hid (decide_eq_true hne)
  rw [HD.out]
  by_cases hl:D.past.length=E.past.length
  ·have hd:((D.past.length:Int) != (E.past.length:Int))=false:=by simp [hl]
   have HL:=Lib.hid hl
   have HQ:=Lib.hid hQ
   have HP:=Lib.hid hP
   clear hl hne hP hQ
   go_wp2_with fail
   clear d2 e2
   go_loopw [5] (fun i wr=>∃ k:Nat,k<=D.past.length∧i=.int .i64 k∧Below w0.heap.size w0 wr∧Hid (∀ j,j < k->LL D.past j=LL E.past j)) (fun i _=>D.past.length - (intOf i).toNat)
   case atStart=>exact ⟨0,Nat.zero_le _,rfl,hb1,Lib.hid fun i h=>by omega⟩
   case round =>
    obtain ⟨k,hk,rfl,hb,HA⟩:=hrel
    obtain ⟨d2,e2⟩:=HCs.out _ hb
    by_cases hlt:k < D.past.length
    ·have hlm:k < E.past.length:=by have:=HL.out;omega
     obtain ⟨pb,po,rfl,hpl,hpc⟩:=HP.out (by omega)
     obtain ⟨qb,qo,rfl,hql,hqc⟩:=HQ.out (by omega)
     obtain ⟨Pk,pk,p1,p2,p3⟩:=hpc k hlt
     obtain ⟨Qk,qk,q1,q2,q3⟩:=hqc k hlm
     have c1:=WB.cell (B:=w0.heap.size) (w:=wr) hpl ((hb.cell (p:=⟨pb,po+k,none⟩) hpl).trans p1)
     have c2:=WB.cell (B:=w0.heap.size) (w:=wr) hql ((hb.cell (p:=⟨qb,qo+k,none⟩) hql).trans q1)
     have c3:=WB.cell (B:=w0.heap.size) (w:=wr) (b:=w.heap.size) (o:=1) (by omega) d2
     have c4:=WB.cell (B:=w0.heap.size) (w:=wr) (b:=w.heap.size+1) (o:=1) (by omega) e2
     have z1:(0:Int)<=(k:Int):=by omega
     have z2:(k:Int) < (D.past.length:Int):=by omega
     have z3:(k:Int) < (E.past.length:Int):=by omega
     have hsz:=hb.size
     have HS:=Lib.hid (fun W (hW:Below w0.heap.size wr W)=>c_sameCus (LL D.past k) (LL E.past k) Pk Qk w0.heap.size w0.heap.size pk qk W (p3.below (hb.trans hW)) (q3.below (hb.trans hW)) (by have:=hs3 k hlt;omega) (by have:=ht3 k hlm;omega))
     clear hpc hqc p1 q1 p3 q3
     by_cases he:LL D.past k=LL E.past k
     ·have HT:=Lib.hid (decide_eq_true he)
      have HE:=Lib.hid he
      rw [HT.out] at HS
      clear he
      go_wp2_with fail
      refine wp_region_wb w0.heap.size (by kernel_rfl) (by kernel_rfl) ?_
      repeat (go_big_quiet_step ((go_at_call 60;exact Calls.inB hsz (HS.out _ (WB.below _)))))
      refine wpQuiet_nil ?_
      rintro w5 ⟨⟨_,hb5⟩,rfl⟩
      clear c1 c2 c3 c4
      go_wp2_with fail
      go_roundw
      case rel=>exact ⟨k+1,by omega,by go_num,hb.trans hb5,Lib.hid fun i hi=>by
       by_cases e:i=k
       ·subst e;exact HE.out
       ·exact HA.out i (by omega)⟩
      case measure=>simp [intOf];omega
     ·have HT:=Lib.hid (decide_eq_false he)
      have HE:=Lib.hid he
      rw [HT.out] at HS
      clear he
      go_wp2_with fail
      refine wp_region_wb w0.heap.size (by kernel_rfl) (by kernel_rfl) ?_
      repeat (go_big_quiet_step ((go_at_call 60;exact Calls.inB hsz (HS.out _ (WB.below _)))))
      refine wpQuiet_nil ?_
      rintro w5 ⟨⟨_,hb5⟩,rfl⟩
      clear c1 c2 c3 c4
      go_wp2_with fail
      go_ret
      have hF:eqK D E=false:=by
       have:¬ D.past=E.past:=fun h=>HE.out (by rw [h])
       simp [eqK,this]
      exact ⟨by rw [hF];rfl,(hb0.trans ((hb.trans hb5).mono (by omega)))⟩
    ·go_wp2_with fail
     go_ret
     have hT:D.past=E.past:=LL_ext HL.out fun i hi=>HA.out i (by omega)
     exact ⟨by rw [eqK,HD.out,decide_eq_true hT];rfl,hb0.trans (hb.mono (by omega))⟩
  ·have hd:((D.past.length:Int) != (E.past.length:Int))=true:=by simpa using fun h:(D.past.length:Int)=E.past.length=>hl (by omega)
   have HL:=Lib.hid hl
   clear hl hne
   go_wp2_with fail
   go_ret
   have hF:eqK D E=false:=by
    have:¬ D.past=E.past:=fun h=>HL.out (by rw [h])
    simp [eqK,this]
   exact ⟨by rw [hF];rfl,hb0.trans (hb1.mono (by omega))⟩
 ·have HD:=Lib.hid (decide_eq_false hne)
  rw [HD.out]
  clear hne
  go_wp2_with fail
  go_ret
  have hF:eqK D E=false:=by rw [eqK,HD.out];rfl
  exact ⟨by rw [hF];rfl,hb0.trans (hb1.mono (by omega))⟩
theorem ks_zero (w:World) (B:Nat):Ks w B (.slice none 0 0) (.slice none 0 0) noK:=⟨⟨none,0,rfl,Nat.le_refl _,fun h=>by simp [noK] at h⟩,none,0,rfl,Nat.le_refl _,Css.nil _ _ _⟩
theorem small_zero:SmallK noK:=⟨by simp [noK],by simp [noK],fun k hk=>by simp [noK] at hk⟩
theorem c_noDesk (D:KV) (vn vp:Value) (w:World) (hK:Ks w w.heap.size vn vp D) (hs:SmallK D) :
  Calls Tryz.prog 22 #[.agg #[vn,vp]] w fun e w'=>e=.returned (.bool (eqK D noK))∧Below w.heap.size w w':=by
 obtain ⟨w0,hw0⟩:∃ w0,w.alloc (.cells #[vn,vp] 31)=w0:=⟨_,rfl⟩
 have hz0:w0.heap.size=w.heap.size+1:=by rw [<- hw0];simp
 have hb0:Below w.heap.size w w0:=by rw [<- hw0];exact (Below.refl _ w).alloc (Nat.le_refl _) _
 have bD:w0.heap[w.heap.size]?=some (.cells #[vn,vp] 31 (0,0)):=by rw [<- hw0];exact heap_alloc_new _ _
 have hK0:=(hK.below hb0).more (show w.heap.size<=w0.heap.size by omega)
 have HS:=Lib.hid (c_sameDesk D noK vn vp _ _ w0 hK0 (ks_zero _ _) hs small_zero)
 obtain ⟨⟨An,cn,rfl,-,-⟩,Ap,cp,rfl,-,-⟩:=hK0
 have d1:=cell_of_row _ w.heap.size 0 _ _ _ bD
 have d2:=cell_of_row _ w.heap.size 1 _ _ _ bD
 clear hK
 go_enter Tryz.func22,Tryz.ntmps22
 go_wp2_with fail
 refine HS.out.mono ?_
 rintro e w1 ⟨rfl,hb1⟩
 go_wp2_with fail
 go_ret
 exact ⟨rfl,hb0.trans (hb1.mono (by omega))⟩
end
end Go.Proofs.YthpccmkagikhjaaGreatDoor

/- draws of customers of two counters (ahead) -/
import Derived.Test.YtofjfhifldafcaaI5
import Derived.Test.YtofjfhifldafcaaO5
import Derived.Test.YtofjfhifldafcaaX
namespace Go.Proofs.Ytofjfhifldafcaa
set_option linter.unusedVariables false
open Go.RowKit
attribute [local go_sem ↓] Go.wp_at_zero Go.wp_at_succ

theorem BO.storeY {w : World} {base g n c : Nat} {L : List (Int × Int)} (h : BO w base (.slice (some ⟨g, 0, none⟩) n c) L) (hp : 0 < L.length) (y : Int) :
    BO (w.setCell ⟨g, 1, none⟩ (.int .i64 y)) base (.slice (some ⟨g, 0, none⟩) n c) (L.set 0 (X L 0, y)) := by
  have hn := h.cells.1
  subst hn
  have h1 := (World.ownsRow.stored (g := g) (cap := c) h 1 (.int .i64 y)).1
  cases L with
  | nil => simp at hp
  | cons d L =>
    unfold BO
    simpa [flatC, X] using h1

set_option maxHeartbeats 4000000 in
theorem c_l20Both (base r p n : Nat) (w : World) (h : Rd w base r p) (hp : p ≤ 900000000) (hn1 : 1 ≤ n) (hn2 : n ≤ 1000) :
    Calls Try.prog 51 #[.pointer (some ⟨r, 0, none⟩), .int .i64 n] w fun e w' => ∃ L v, e = .returned v ∧ BO w' w.heap.size v L ∧ L.length ≤ 7 ∧ w.grownBy w' (some r) ∧ ∃ p', p' ≤ p + 30 ∧ Rd w' base r p' := by
  have hrw := h.2.1
  have hbr := h.1
  go_enter Try.func51, Try.ntmps51
  go_wp2_with fail
  have hb0 : Below w.heap.size w ((w.alloc (.cells #[] 27)).alloc (.cells #[.int .i64 3, .int .i64 9] 3)) := by (repeat (first | exact rfl | exact Below.refl _ _ | (with_reducible refine Below.drew ?_) | (with_reducible refine Below.drewN ?_ _) | (with_reducible refine Below.alloc ?_ ?_ _) | (with_reducible refine Below.setCell ?_ ?_ _) | (show _ ≤ _; focus (first | omega | (simp; done) | (simp; omega)))))
  have g0 : w.grownBy ((w.alloc (.cells #[] 27)).alloc (.cells #[.int .i64 3, .int .i64 9] 3)) (some r) := (World.grownBy_alloc _ _ _).trans (World.grownBy_alloc _ _ _)
  have o0 : BO ((w.alloc (.cells #[] 27)).alloc (.cells #[.int .i64 3, .int .i64 9] 3)) w.heap.size (.slice (some ⟨w.heap.size, 0, none⟩) 0 0) [] := (BO.empty w (Nat.le_refl _)).alloc _
  have hz := heap_alloc_new (w.alloc (.cells #[] 27)) (.cells #[.int .i64 3, .int .i64 9] 3)
  rw [World.size_alloc] at hz
  have hz2 : ((w.alloc (.cells #[] 27)).alloc (.cells #[.int .i64 3, .int .i64 9] 3)).heap.size = w.heap.size + 2 := by simp
  refine (c_pickI base r p 2 _ (h.keepB hb0 hrw (by omega)) (by omega) (by omega) (by omega)).mono ?_
  rintro e w3 ⟨x3, hx3, rfl, hg3, hr3⟩
  obtain ⟨hi, hi1, hi2, hcell⟩ : ∃ hi : Nat, 1 ≤ hi ∧ hi ≤ 9 ∧ w3.cell? ⟨w.heap.size + 1, x3, none⟩ = some (.int .i64 hi) := by
    have hq := fun o => cell_of_row _ (w.heap.size + 1) o _ _ _ hz
    rcases (show x3 = 0 ∨ x3 = 1 by omega) with rfl | rfl
    · exact ⟨3, by omega, by omega, hg3.cell (hq 0) (by simp; omega)⟩
    · exact ⟨9, by omega, by omega, hg3.cell (hq 1) (by simp; omega)⟩
  have g3 := g0.trans hg3
  have o3 := o0.grownR hg3 (fun b e => by cases e; exact hrw)
  clear g0 o0 hg3 h hb0 hz
  have p0 : (x3 : Int) < 2 := hx3
  go_wp2_with fail
  refine (c_pickI base r (p + 1) 5 _ hr3 (by omega) (by omega) (by omega)).mono ?_
  rintro e w4 ⟨x4, hx4, rfl, hg4, hr4⟩
  have g4 := g3.trans hg4
  have o4 := o3.grownR hg4 (fun b e => by cases e; exact hrw)
  clear g3 o3 hg4 hr3 hcell
  go_wp2_with fail
  go_loopw [5, 7] (fun lv kv wr => ∃ (L : List (Int × Int)) (p' k : Nat), kv = .int .i64 k ∧ L.length + k ≤ 5 ∧ 1 ≤ L.length + k ∧ p' + 2 * k ≤ p + 20 ∧ BO wr w.heap.size lv L ∧ w.grownBy wr (some r) ∧ Rd wr base r p')
    (fun _ kv _ => (intOf kv).toNat)
  case atStart => exact ⟨[], p + 2, x4 + 1, by go_num, by simp; omega, by simp, by omega, o4, g4, hr4⟩
  case round =>
    obtain ⟨L, p', k, rfl, hLk, hL1, hp', hown, hgr, hrd⟩ := hrel
    by_cases hk : 0 < k
    · have hsr := hgr.size
      go_wp2_with fail
      refine (c_pickI base r p' _ _ hrd (by omega) (by omega) (by omega)).mono ?_
      rintro e w5 ⟨x5, hx5, rfl, hg5, hr5⟩
      have g5 := hgr.trans hg5
      have o5 := hown.grownR hg5 (fun b e => by cases e; exact hrw)
      have hs5 := g5.size
      clear hgr hown hg5 hrd
      have HP := Lib.hid (c_pickI base r (p' + 1) (hi : Int) w5 hr5 (by omega) (by omega) (by omega))
      go_wp2_with fail
      refine HP.out.mono ?_
      rintro e w6 ⟨x6, hx6, rfl, hg6, hr6⟩
      have g6 := g5.trans hg6
      have o6 := o5.grownR hg6 (fun b e => by cases e; exact hrw)
      have hs6 := g6.size
      clear g5 o5 hg6 hr5 HP
      go_wp2_with (refine app_B (by rfl) (.tmp 21) (.tmp 31) (by rfl) w.heap.size u5 L (1 + (x5 : Int)) (1 + (x6 : Int)) w6.heap.size (by rfl) (o6.alloc _) (by rfl) (heap_alloc_new _ _) (by omega) (by simp; omega) ?_; intro g cap w7 hown7 hgr7 hb7)
      have hb7' : Below w.heap.size w6 w7 := Below.trans (by (repeat (first | exact rfl | exact Below.refl _ _ | (with_reducible refine Below.drew ?_) | (with_reducible refine Below.drewN ?_ _) | (with_reducible refine Below.alloc ?_ ?_ _) | (with_reducible refine Below.setCell ?_ ?_ _) | (show _ ≤ _; focus (first | omega | (simp; done) | (simp; omega)))))) hb7
      go_roundw
      case rel => exact ⟨L ++ [(1 + (x5 : Int), 1 + (x6 : Int))], p' + 1 + 1, k - 1, by go_num, by simp; omega, by simp; omega, by omega, hown7, grown_thenB g6 hb7', hr6.keepB hb7' hrw (by omega)⟩
      case measure => simp [intOf]; omega
    · go_wp2_with fail
      refine (c_odd base r p' n _ hrd (by omega) hn1 hn2).mono ?_
      rintro e w5 ⟨bo, rfl, hg5, hr5⟩
      have g5 := hgr.trans hg5
      have o5 := hown.grownR hg5 (fun b e => by cases e; exact hrw)
      have hs5 := g5.size
      clear hgr hown hg5 hrd o4 g4 hr4
      cases bo with
      | false =>
        go_wp2_with fail
        go_ret
        exact ⟨L, _, rfl, o5, by omega, g5, _, by omega, hr5⟩
      | true =>
        go_wp2_with fail
        refine (c_pickI base r (p' + 1) _ _ hr5 (by omega) (by omega) (by omega)).mono ?_
        rintro e w6 ⟨x6, hx6, rfl, hg6, hr6⟩
        have g6 := g5.trans hg6
        have o6 := o5.grownR hg6 (fun b e => by cases e; exact hrw)
        have hs6 := g6.size
        clear g5 o5 hg6 hr5
        rcases (show x6 = 0 ∨ x6 = 1 ∨ x6 = 2 by omega) with rfl | rfl | rfl
        · go_wp2_with fail
          go_ret
          refine ⟨[], _, rfl, BO.empty w6 hs6, by simp, ?_, p' + 2, by omega, ?_⟩
          · exact grown_thenB g6 (by (repeat (first | exact rfl | exact Below.refl _ _ | (with_reducible refine Below.drew ?_) | (with_reducible refine Below.drewN ?_ _) | (with_reducible refine Below.alloc ?_ ?_ _) | (with_reducible refine Below.setCell ?_ ?_ _) | (show _ ≤ _; focus (first | omega | (simp; done) | (simp; omega))))))
          · exact hr6.keepB (B := w6.heap.size) (by (repeat (first | exact rfl | exact Below.refl _ _ | (with_reducible refine Below.drew ?_) | (with_reducible refine Below.drewN ?_ _) | (with_reducible refine Below.alloc ?_ ?_ _) | (with_reducible refine Below.setCell ?_ ?_ _) | (show _ ≤ _; focus (first | omega | (simp; done) | (simp; omega)))))) (by omega) (by omega)
        · have hlp : 0 < L.length := by omega
          obtain ⟨gb, c, rfl, hgb1, hgb2⟩ := World.ownsRow.form o6 hlp
          obtain ⟨-, cs, fz⟩ := o6.cells
          have c0 := (cs 0 hlp).2
          rw [Nat.zero_mul, Nat.zero_add] at c0
          have f0 := fz 1
          have o7 := o6.storeY hlp 0
          have hb7 : Below w.heap.size w6 (w6.setCell ⟨gb, 1, none⟩ (.int .i64 0)) := (Below.refl _ _).setCell (p := ⟨gb, 1, none⟩) hgb1 _
          have hl0 : (0 : Int) < (L.length : Int) := by omega
          clear cs fz
          go_wp2_with fail
          go_ret
          exact ⟨L.set 0 (X L 0, 0), _, rfl, by simpa using o7, by simp; omega, grown_thenB g6 hb7, p' + 2, by omega, hr6.keepB hb7 hrw (by omega)⟩
        · obtain ⟨i0, hi, hz0, hz1, hz2⟩ := info_parts infoBo
          go_wp2_with (at_make; refine wpList_make_full w6 rfl _ _ _ rfl w.heap.size 27 i0 _ 2 Try.underlying23 hi hz0 hz1 .i64 .i64 _ _ 7 rfl rfl rfl rfl (by rw [hz2]; omega) (by simp only [maxLen]; omega) hs6 ?_; intro w7 hown7 hgr7)
          have hb7 : Below w.heap.size w6 w7 := (Below.refl _ _).grown hgr7 hs6 (by simp)
          have o7 : BO w7 w.heap.size (.slice (some ⟨w6.heap.size, 0, none⟩) 7 7) (List.replicate 7 (0, 0)) := by
            unfold BO
            rw [show (List.replicate 7 ((0 : Int), (0 : Int))).length = 7 by rfl, ← flatC_zeros]
            exact hown7
          go_ret
          exact ⟨List.replicate 7 (0, 0), _, rfl, o7, by simp, grown_thenB g6 hb7, p' + 2, by omega, hr6.keepB hb7 hrw (by omega)⟩

set_option maxHeartbeats 1000000 in
theorem c_DrawBothOk (A : Option Addr) (n c : Nat) (w : World) (h : Bs w w.heap.size A n) (hn : n ≤ 1048576) (hc : n ≤ c) :
    Calls Try.prog 17 #[.slice A n c] w fun e w' => ∃ L v, e = .returned v ∧ BO w' w.heap.size v L ∧ L.length ≤ 7 ∧ Below w.heap.size w w' := by
  go_enter Try.func17, Try.ntmps17
  go_wp2_with fail
  refine (c_l20Open A n c _ h hn hc).mono ?_
  rintro e w1 ⟨r, rfl, hr, hb1⟩
  have hs1 := hb1.size
  have hrb := hr.1
  go_wp2_with fail
  refine (c_l20Both w.heap.size r 0 2 _ hr (by omega) (by omega) (by omega)).mono ?_
  rintro e w2 ⟨L, v, rfl, hv, hl, hg, -⟩
  go_wp2_with fail
  go_ret
  exact ⟨L, v, rfl, hv.mono hs1, hl, hb1.trans (below_grown hg hrb hs1)⟩

set_option maxHeartbeats 1000000 in
theorem c_DrawLeavesBoth (A : Option Addr) (n c : Nat) (w : World) (h : Bs w w.heap.size A n) (hn : n ≤ 1048576) (hc : n ≤ c) :
    Calls Try.prog 21 #[.slice A n c] w fun e w' => ∃ L v, e = .returned v ∧ BO w' w.heap.size v L ∧ L.length ≤ 7 ∧ Below w.heap.size w w' := by
  go_enter Try.func21, Try.ntmps21
  go_wp2_with fail
  refine (c_l20Open A n c _ h hn hc).mono ?_
  rintro e w1 ⟨r, rfl, hr, hb1⟩
  have hs1 := hb1.size
  have hrb := hr.1
  go_wp2_with fail
  refine (c_l20Both w.heap.size r 0 9 _ hr (by omega) (by omega) (by omega)).mono ?_
  rintro e w2 ⟨L, v, rfl, hv, hl, hg, -⟩
  go_wp2_with fail
  go_ret
  exact ⟨L, v, rfl, hv.mono hs1, hl, hb1.trans (below_grown hg hrb hs1)⟩

set_option maxHeartbeats 1000000 in
theorem c_DrawLongestWay (A : Option Addr) (n c : Nat) (w : World) (h : Bs w w.heap.size A n) (hn : n ≤ 1048576) (hc : n ≤ c) :
    Calls Try.prog 26 #[.slice A n c] w fun e w' => ∃ L v, e = .returned v ∧ BO w' w.heap.size v L ∧ L.length ≤ 7 ∧ Below w.heap.size w w' := by
  go_enter Try.func26, Try.ntmps26
  go_wp2_with fail
  refine (c_l20Open A n c _ h hn hc).mono ?_
  rintro e w1 ⟨r, rfl, hr, hb1⟩
  have hs1 := hb1.size
  have hrb := hr.1
  go_wp2_with fail
  refine (c_l20Both w.heap.size r 0 9 _ hr (by omega) (by omega) (by omega)).mono ?_
  rintro e w2 ⟨L, v, rfl, hv, hl, hg, -⟩
  go_wp2_with fail
  go_ret
  exact ⟨L, v, rfl, hv.mono hs1, hl, hb1.trans (below_grown hg hrb hs1)⟩

set_option maxHeartbeats 1000000 in
theorem c_DrawBackOf (A : Option Addr) (n c : Nat) (w : World) (h : Bs w w.heap.size A n) (hn : n ≤ 1048576) (hc : n ≤ c) :
    Calls Try.prog 29 #[.slice A n c] w fun e w' => ∃ L v, e = .returned v ∧ BO w' w.heap.size v L ∧ L.length ≤ 7 ∧ Below w.heap.size w w' := by
  go_enter Try.func29, Try.ntmps29
  go_wp2_with fail
  refine (c_l20Open A n c _ h hn hc).mono ?_
  rintro e w1 ⟨r, rfl, hr, hb1⟩
  have hs1 := hb1.size
  have hrb := hr.1
  go_wp2_with fail
  refine (c_l20Both w.heap.size r 0 9 _ hr (by omega) (by omega) (by omega)).mono ?_
  rintro e w2 ⟨L, v, rfl, hv, hl, hg, -⟩
  go_wp2_with fail
  go_ret
  exact ⟨L, v, rfl, hv.mono hs1, hl, hb1.trans (below_grown hg hrb hs1)⟩

set_option maxHeartbeats 1000000 in
theorem c_DrawByPairs (A : Option Addr) (n c : Nat) (w : World) (h : Bs w w.heap.size A n) (hn : n ≤ 1048576) (hc : n ≤ c) :
    Calls Try.prog 36 #[.slice A n c] w fun e w' => ∃ L v, e = .returned v ∧ BO w' w.heap.size v L ∧ L.length ≤ 7 ∧ Below w.heap.size w w' := by
  go_enter Try.func36, Try.ntmps36
  go_wp2_with fail
  refine (c_l20Open A n c _ h hn hc).mono ?_
  rintro e w1 ⟨r, rfl, hr, hb1⟩
  have hs1 := hb1.size
  have hrb := hr.1
  go_wp2_with fail
  refine (c_l20Both w.heap.size r 0 9 _ hr (by omega) (by omega) (by omega)).mono ?_
  rintro e w2 ⟨L, v, rfl, hv, hl, hg, -⟩
  go_wp2_with fail
  go_ret
  exact ⟨L, v, rfl, hv.mono hs1, hl, hb1.trans (below_grown hg hrb hs1)⟩

set_option maxHeartbeats 1000000 in
theorem c_DrawLeastWay (A : Option Addr) (n c : Nat) (w : World) (h : Bs w w.heap.size A n) (hn : n ≤ 1048576) (hc : n ≤ c) :
    Calls Try.prog 40 #[.slice A n c] w fun e w' => ∃ L v, e = .returned v ∧ BO w' w.heap.size v L ∧ L.length ≤ 7 ∧ Below w.heap.size w w' := by
  go_enter Try.func40, Try.ntmps40
  go_wp2_with fail
  refine (c_l20Open A n c _ h hn hc).mono ?_
  rintro e w1 ⟨r, rfl, hr, hb1⟩
  have hs1 := hb1.size
  have hrb := hr.1
  go_wp2_with fail
  refine (c_l20Both w.heap.size r 0 9 _ hr (by omega) (by omega) (by omega)).mono ?_
  rintro e w2 ⟨L, v, rfl, hv, hl, hg, -⟩
  go_wp2_with fail
  go_ret
  exact ⟨L, v, rfl, hv.mono hs1, hl, hb1.trans (below_grown hg hrb hs1)⟩

set_option maxHeartbeats 2000000 in
theorem c_DrawInOrder (A : Option Addr) (n c : Nat) (w : World) (h : Bs w w.heap.size A n) (hn : n ≤ 1048576) (hc : n ≤ c) :
    Calls Try.prog 32 #[.slice A n c] w fun e w' => ∃ (L : List (Int × Int)) (v : Value) (o : List Int) (u : Value), e = .returned (.tuple #[v, u]) ∧ BO w' w.heap.size v L ∧ L.length ≤ 7 ∧ IO w' w.heap.size u o ∧ o.length ≤ 8 ∧ Below w.heap.size w w' := by
  go_enter Try.func32, Try.ntmps32
  go_wp2_with fail
  refine (c_l20Open A n c _ h hn hc).mono ?_
  rintro e w1 ⟨r, rfl, hr, hb1⟩
  have hs1 := hb1.size
  have hrb := hr.1
  have hrw := hr.2.1
  go_wp2_with fail
  refine (c_l20Both w.heap.size r 0 12 _ hr (by omega) (by omega) (by omega)).mono ?_
  rintro e w2 ⟨L, v, rfl, hv, hl, hg2, p2, hp2, hr2⟩
  obtain ⟨D, d, rfl, hd1, hd2, -⟩ := hv.form
  clear hr
  have hs2 := hg2.size
  go_wp2_with fail
  refine (c_pickI w.heap.size r p2 20 _ hr2 (by omega) (by omega) (by omega)).mono ?_
  rintro e w3 ⟨x3, hx3, rfl, hg3, hr3⟩
  have g3 := hg2.trans hg3
  have o3 := hv.grownR hg3 (fun b e => by cases e; omega)
  have hs3 := g3.size
  obtain ⟨m, hm, hm2⟩ : ∃ m : Nat, (L.length : Int) + (x3 : Int) / 19 = m ∧ m ≤ 8 := ⟨(L.length + x3 / 19), by omega, by omega⟩
  have HP := Lib.hid (fun W hW => c_l20Perm w.heap.size r (p2 + 1) m W hW (by omega) (by omega))
  clear hg3 hr2 hg2 hv
  go_wp2_with fail
  refine (HP.out _ hr3).mono ?_
  rintro e w4 ⟨o, u, rfl, hu, ho, hg4, -⟩
  go_wp2_with fail
  go_ret2
  exact ⟨L, _, o, u, rfl, (o3.grownR hg4 (fun b e => by cases e; omega)).mono hs1, by omega, hu.mono (by omega), by omega, hb1.trans (below_grown (g3.trans hg4) hrb hs1)⟩

end Go.Proofs.Ytofjfhifldafcaa


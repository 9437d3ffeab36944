/- the six draws of chapter 7 (ahead) -/
import Derived.Test.YtckebkaaokfonaaI5
namespace Go.Proofs.Ytckebkaaokfonaa
set_option linter.unusedVariables false
open Go.RowKit
attribute [local go_sem ↓] Go.wp_at_zero Go.wp_at_succ

set_option maxHeartbeats 1000000 in
theorem c_DrawTasksOk (A : Option Addr) (n c : Nat) (w : World) (h : Bs w w.heap.size A n) (hn : n ≤ 1048576) (hc : n ≤ c) :
    Calls Try.prog 15 #[.slice A n c] w fun e w' => ∃ L v, e = .returned v ∧ TO w' w.heap.size v L ∧ L.length ≤ 6 ∧ Below w.heap.size w w' := by
  go_enter Try.func15, Try.ntmps15
  go_wp2_with fail
  refine (c_l20Open A n c _ h hn hc).mono ?_
  rintro e w1 ⟨r, rfl, hr, hb1⟩
  have hs1 := hb1.size
  have hrb := hr.1
  go_wp2_with fail
  refine (c_l20Tasks w.heap.size r 0 2 _ hr (by omega) (by omega) (by omega)).mono ?_
  rintro e w2 ⟨L, v, rfl, hv, hl, hg, -⟩
  go_wp2_with fail
  go_ret
  exact ⟨L, v, rfl, hv.mono hs1, hl, hb1.trans (below_grown hg hrb hs1)⟩

set_option maxHeartbeats 1000000 in
theorem c_DrawByRatio (A : Option Addr) (n c : Nat) (w : World) (h : Bs w w.heap.size A n) (hn : n ≤ 1048576) (hc : n ≤ c) :
    Calls Try.prog 28 #[.slice A n c] w fun e w' => ∃ L v, e = .returned v ∧ TO w' w.heap.size v L ∧ L.length ≤ 6 ∧ Below w.heap.size w w' := by
  go_enter Try.func28, Try.ntmps28
  go_wp2_with fail
  refine (c_l20Open A n c _ h hn hc).mono ?_
  rintro e w1 ⟨r, rfl, hr, hb1⟩
  have hs1 := hb1.size
  have hrb := hr.1
  go_wp2_with fail
  refine (c_l20Tasks w.heap.size r 0 9 _ hr (by omega) (by omega) (by omega)).mono ?_
  rintro e w2 ⟨L, v, rfl, hv, hl, hg, -⟩
  go_wp2_with fail
  go_ret
  exact ⟨L, v, rfl, hv.mono hs1, hl, hb1.trans (below_grown hg hrb hs1)⟩

set_option maxHeartbeats 1000000 in
theorem c_DrawLeastWeighted (A : Option Addr) (n c : Nat) (w : World) (h : Bs w w.heap.size A n) (hn : n ≤ 1048576) (hc : n ≤ c) :
    Calls Try.prog 32 #[.slice A n c] w fun e w' => ∃ L v, e = .returned v ∧ TO w' w.heap.size v L ∧ L.length ≤ 6 ∧ Below w.heap.size w w' := by
  go_enter Try.func32, Try.ntmps32
  go_wp2_with fail
  refine (c_l20Open A n c _ h hn hc).mono ?_
  rintro e w1 ⟨r, rfl, hr, hb1⟩
  have hs1 := hb1.size
  have hrb := hr.1
  go_wp2_with fail
  refine (c_l20Tasks w.heap.size r 0 9 _ hr (by omega) (by omega) (by omega)).mono ?_
  rintro e w2 ⟨L, v, rfl, hv, hl, hg, -⟩
  go_wp2_with fail
  go_ret
  exact ⟨L, v, rfl, hv.mono hs1, hl, hb1.trans (below_grown hg hrb hs1)⟩

set_option maxHeartbeats 2000000 in
theorem c_DrawWeightedSum (A : Option Addr) (n c : Nat) (w : World) (h : Bs w w.heap.size A n) (hn : n ≤ 1048576) (hc : n ≤ c) :
    Calls Try.prog 23 #[.slice A n c] w fun e w' => ∃ (L : List (Int × Int)) (v : Value) (o : List Int) (u : Value), e = .returned (.tuple #[v, u]) ∧ TO w' w.heap.size v L ∧ L.length ≤ 6 ∧ IO w' w.heap.size u o ∧ o.length ≤ 7 ∧ Below w.heap.size w w' := by
  go_enter Try.func23, Try.ntmps23
  go_wp2_with fail
  refine (c_l20Open A n c _ h hn hc).mono ?_
  rintro e w1 ⟨r, rfl, hr, hb1⟩
  have hs1 := hb1.size
  have hrb := hr.1
  have hrw := hr.2.1
  go_wp2_with fail
  refine (c_l20Tasks w.heap.size r 0 12 _ hr (by omega) (by omega) (by omega)).mono ?_
  rintro e w2 ⟨L, v, rfl, hv, hl, hg2, p2, hp2, hr2⟩
  obtain ⟨D, d, rfl, hd1, hd2, -⟩ := hv.form
  clear hr
  have hs2 := hg2.size
  go_wp2_with fail
  refine (c_pickI w.heap.size r p2 20 _ hr2 (by omega) (by omega) (by omega)).mono ?_
  rintro e w3 ⟨x3, hx3, rfl, hg3, hr3⟩
  have g3 := hg2.trans hg3
  have o3 := hv.grownR hg3 (fun b e => by cases e; omega)
  have hs3 := g3.size
  obtain ⟨m, hm, hm2⟩ : ∃ m : Nat, (L.length : Int) + (x3 : Int) / 19 = m ∧ m ≤ 7 := ⟨(L.length + x3 / 19), by omega, by omega⟩
  have HP := Lib.hid (fun W hW => c_l20Perm w.heap.size r (p2 + 1) m W hW (by omega) (by omega))
  clear hg3 hr2 hg2 hv
  go_wp2_with fail
  refine (HP.out _ hr3).mono ?_
  rintro e w4 ⟨o, u, rfl, hu, ho, hg4, -⟩
  go_wp2_with fail
  go_ret2
  exact ⟨L, _, o, u, rfl, (o3.grownR hg4 (fun b e => by cases e; omega)).mono hs1, by omega, hu.mono (by omega), by omega, hb1.trans (below_grown (g3.trans hg4) hrb hs1)⟩

set_option maxHeartbeats 2000000 in
theorem c_DrawEachOnce (A : Option Addr) (n c : Nat) (w : World) (h : Bs w w.heap.size A n) (hn : n ≤ 1048576) (hc : n ≤ c) :
    Calls Try.prog 19 #[.slice A n c] w fun e w' => ∃ (o : List Int) (u : Value) (t : Int), e = .returned (.tuple #[u, .int .i64 t]) ∧ IO w' w.heap.size u o ∧ o.length ≤ 6 ∧ (0 ≤ t ∧ t ≤ 100) ∧ Below w.heap.size w w' := by
  go_enter Try.func19, Try.ntmps19
  go_wp2_with fail
  refine (c_l20Open A n c _ h hn hc).mono ?_
  rintro e w1 ⟨r, rfl, hr, hb1⟩
  have hs1 := hb1.size
  have hrb := hr.1
  have hrw := hr.2.1
  go_wp2_with fail
  refine (c_pickI w.heap.size r 0 6 _ hr (by omega) (by omega) (by omega)).mono ?_
  rintro e w2 ⟨x2, hx2, rfl, hg2, hr2⟩
  have hs2 := hg2.size
  obtain ⟨m, hm, hm1, hm2⟩ : ∃ m : Nat, 1 + (x2 : Int) = m ∧ 1 ≤ m ∧ m ≤ 6 := ⟨1 + x2, by omega, by omega, by omega⟩
  have HP := Lib.hid (fun W hW => c_l20Perm w.heap.size r 1 m W hW (by omega) (by omega))
  clear hr
  go_wp2_with fail
  refine (HP.out _ hr2).mono ?_
  rintro e w3 ⟨o, u, rfl, hu, ho, hg3, p3, hp3, hr3⟩
  have g3 := hg2.trans hg3
  have hs3 := g3.size
  obtain ⟨gb, cu, rfl, hgb1, hgb2⟩ := World.ownsRow.form hu (by omega)
  rw [ho] at hu ⊢
  clear hr2 HP hg2 hg3
  go_wp2_with fail
  refine (c_pickI w.heap.size r p3 3 _ hr3 (by omega) (by omega) (by omega)).mono ?_
  rintro e w4 ⟨x4, hx4, rfl, hg4, hr4⟩
  have g4 := g3.trans hg4
  have u4 := hu.grownR hg4 (fun b e => by cases e; omega)
  have hs4 := g4.size
  clear hr3 hu hg4 g3
  by_cases h0 : x4 = 0
  · subst h0
    go_wp2_with fail
    refine (c_pickI w.heap.size r (p3 + 1) (m : Int) _ hr4 (by omega) (by omega) (by omega)).mono ?_
    rintro e w5 ⟨x5, hx5, rfl, hg5, hr5⟩
    have g5 := g4.trans hg5
    have u5' := u4.grownR hg5 (fun b e => by cases e; omega)
    clear hr4 u4 hg5 g4
    go_wp2_with fail
    refine (c_pickI w.heap.size r (p3 + 1 + 1) 7 _ hr5 (by omega) (by omega) (by omega)).mono ?_
    rintro e w6 ⟨x6, hx6, rfl, hg6, hr6⟩
    have g6 := g5.trans hg6
    have u6' := u5'.grownR hg6 (fun b e => by cases e; omega)
    have hs6 := g6.size
    clear hr5 u5' hg6 g5
    obtain ⟨-, cs, fz⟩ := u6'.cells
    have c0 := cs x5 (by omega)
    have f0 := fz x5
    have u7 := u6'.store x5 ((x6 : Int) - 1)
    have hb7 : Below w2.heap.size w6 (w6.setCell ⟨gb, x5, none⟩ (.int .i64 ((x6 : Int) - 1))) := (Below.refl _ _).setCell (p := ⟨gb, x5, none⟩) hgb1 _
    have hr7 := hr6.keepB hb7 (by omega) (by omega)
    have g7 := grown_thenB g6 (hb7.mono (by omega))
    have p1 : (0 : Int) ≤ (x5 : Int) := by omega
    clear cs fz hr6 g6 hb7
    go_wp2_with fail
    refine (c_pickI w.heap.size r (p3 + 1 + 1 + 1) 10 _ hr7 (by omega) (by omega) (by omega)).mono ?_
    rintro e w8 ⟨x8, hx8, rfl, hg8, -⟩
    have g8 := g7.trans hg8
    have u8 := u7.grownR hg8 (fun b e => by cases e; omega)
    go_wp2_with fail
    go_ret2
    exact ⟨_, _, _, rfl, u8.mono (by omega), by simp; omega, by omega, hb1.trans (below_grown g8 hrb hs1)⟩
  · have hx0 : ((x4 : Int) == 0) = false := beq_eq_false_iff_ne.2 (by omega)
    go_wp2_with fail
    refine (c_pickI w.heap.size r (p3 + 1) 10 _ hr4 (by omega) (by omega) (by omega)).mono ?_
    rintro e w8 ⟨x8, hx8, rfl, hg8, -⟩
    have g8 := g4.trans hg8
    have u8 := u4.grownR hg8 (fun b e => by cases e; omega)
    go_wp2_with fail
    go_ret2
    exact ⟨o, _, _, rfl, u8.mono (by omega), by omega, by omega, hb1.trans (below_grown g8 hrb hs1)⟩

set_option maxHeartbeats 2000000 in
theorem c_DrawSwappedAt (A : Option Addr) (n c : Nat) (w : World) (h : Bs w w.heap.size A n) (hn : n ≤ 1048576) (hc : n ≤ c) :
    Calls Try.prog 34 #[.slice A n c] w fun e w' => ∃ (o : List Int) (u : Value) (t : Int), e = .returned (.tuple #[u, .int .i64 t]) ∧ IO w' w.heap.size u o ∧ o.length ≤ 6 ∧ (-100 ≤ t ∧ t ≤ 100) ∧ Below w.heap.size w w' := by
  go_enter Try.func34, Try.ntmps34
  go_wp2_with fail
  refine (c_l20Open A n c _ h hn hc).mono ?_
  rintro e w1 ⟨r, rfl, hr, hb1⟩
  have hs1 := hb1.size
  have hrb := hr.1
  have hrw := hr.2.1
  go_wp2_with fail
  refine (c_pickI w.heap.size r 0 6 _ hr (by omega) (by omega) (by omega)).mono ?_
  rintro e w2 ⟨x2, hx2, rfl, hg2, hr2⟩
  have hs2 := hg2.size
  obtain ⟨m, hm, hm1, hm2⟩ : ∃ m : Nat, 1 + (x2 : Int) = m ∧ 1 ≤ m ∧ m ≤ 6 := ⟨1 + x2, by omega, by omega, by omega⟩
  have HP := Lib.hid (fun W hW => c_l20Perm w.heap.size r 1 m W hW (by omega) (by omega))
  clear hr
  go_wp2_with fail
  refine (HP.out _ hr2).mono ?_
  rintro e w3 ⟨o, u, rfl, hu, ho, hg3, p3, hp3, hr3⟩
  have g3 := hg2.trans hg3
  have hs3 := g3.size
  obtain ⟨gb, cu, rfl, hgb1, hgb2⟩ := World.ownsRow.form hu (by omega)
  rw [ho] at hu ⊢
  clear hr2 HP hg2 hg3
  go_wp2_with fail
  refine (c_odd w.heap.size r p3 9 _ hr3 (by omega) (by omega) (by omega)).mono ?_
  rintro e w4 ⟨bo, rfl, hg4, hr4⟩
  have g4 := g3.trans hg4
  have u4 := hu.grownR hg4 (fun b e => by cases e; omega)
  have hs4 := g4.size
  clear hr3 hu hg4 g3
  cases bo with
  | true =>
    obtain ⟨-, cs, fz⟩ := u4.cells
    have c0 := cs 0 (by omega)
    have f0 := fz 0
    have u7 := u4.store 0 7
    have hb7 : Below w2.heap.size w4 (w4.setCell ⟨gb, 0, none⟩ (.int .i64 7)) := (Below.refl _ _).setCell (p := ⟨gb, 0, none⟩) hgb1 _
    have hr7 := hr4.keepB hb7 (by omega) (by omega)
    have g7 := grown_thenB g4 (hb7.mono (by omega))
    have p1 : (0 : Int) < (m : Int) := by omega
    clear cs fz hr4 g4 hb7
    go_wp2_with fail
    refine (c_pickI w.heap.size r (p3 + 1) 7 _ hr7 (by omega) (by omega) (by omega)).mono ?_
    rintro e w5 ⟨x5, hx5, rfl, hg5, hr5⟩
    have g5 := g7.trans hg5
    have u5' := u7.grownR hg5 (fun b e => by cases e; omega)
    clear hr7 u7 hg5 g7 c0 f0
    go_wp2_with fail
    refine (c_pickI w.heap.size r (p3 + 1 + 1) 20 _ hr5 (by omega) (by omega) (by omega)).mono ?_
    rintro e w8 ⟨x8, hx8, rfl, hg8, -⟩
    have g8 := g5.trans hg8
    have u8 := u5'.grownR hg8 (fun b e => by cases e; omega)
    go_wp2_with fail
    go_ret2
    exact ⟨_, _, _, rfl, u8.mono (by omega), by simp; omega, by omega, hb1.trans (below_grown g8 hrb hs1)⟩
  | false =>
    go_wp2_with fail
    refine (c_pickI w.heap.size r (p3 + 1) 7 _ hr4 (by omega) (by omega) (by omega)).mono ?_
    rintro e w5 ⟨x5, hx5, rfl, hg5, hr5⟩
    have g5 := g4.trans hg5
    have u5' := u4.grownR hg5 (fun b e => by cases e; omega)
    clear hr4 u4 hg5 g4
    go_wp2_with fail
    refine (c_pickI w.heap.size r (p3 + 1 + 1) 20 _ hr5 (by omega) (by omega) (by omega)).mono ?_
    rintro e w8 ⟨x8, hx8, rfl, hg8, -⟩
    have g8 := g5.trans hg8
    have u8 := u5'.grownR hg8 (fun b e => by cases e; omega)
    go_wp2_with fail
    go_ret2
    exact ⟨o, _, _, rfl, u8.mono (by omega), by omega, by omega, hb1.trans (below_grown g8 hrb hs1)⟩

end Go.Proofs.Ytckebkaaokfonaa


/- draws of chapter 10 (ahead) -/
import Derived.Test.YthoendonhkffkaaI
namespace Go.Proofs.Ythoendonhkffkaa
set_option linter.unusedVariables false
open Go.RowKit
attribute [local go_sem ↓] Go.wp_at_zero Go.wp_at_succ

set_option maxHeartbeats 2000000 in
theorem c_l20Beside (base r p : Nat) (w : World) (h : Rd w base r p) (hp : p ≤ 800000000) :
    Calls Try.prog 35 #[.pointer (some ⟨r, 0, none⟩)] w fun e w' => ∃ (L : List (Int × Int)) (v : Value) (t : Int), e = .returned (.tuple #[v, .int .i64 t]) ∧ CO w' w.heap.size v L ∧ L.length ≤ 9 ∧ bdL L ∧ (-100 ≤ t ∧ t ≤ 100) ∧ w.grownBy w' (some r) ∧ ∃ p', p' ≤ p + 50 ∧ Rd w' base r p' := by
  have hrw := h.2.1
  have hbr := h.1
  go_enter Try.func35, Try.ntmps35
  go_wp2_with fail
  refine (c_l20Customers base r p 12 _ h (by omega) (by omega) (by omega)).mono ?_
  rintro e w1 ⟨L, v, rfl, hv, hl, hbd, hg, p', hp', hr⟩
  clear h
  go_wp2_with fail
  ((with_reducible refine (c_pickI base r _ _ _ hr (by omega) (by omega) (by omega)).mono ?_))
  rintro e w2 ⟨x2, hx2, rfl, hg2, hr2⟩
  have g2 := hg.trans hg2
  have o2 := hv.grown hg2 hrw
  clear hg hg2 hr hv
  go_wp2_with fail
  ((with_reducible refine (c_pickI base r _ _ _ hr2 (by omega) (by omega) (by omega)).mono ?_))
  rintro e w3 ⟨x3, hx3, rfl, hg3, hr3⟩
  have g3 := g2.trans hg3
  have o3 := o2.grown hg3 hrw
  clear g2 hg3 hr2 o2
  go_wp2_with fail
  ((with_reducible refine (c_pickI base r _ _ _ hr3 (by omega) (by omega) (by omega)).mono ?_))
  rintro e w4 ⟨x4, hx4, rfl, hg4, hr4⟩
  have g4 := g3.trans hg4
  have o4 := o3.grown hg4 hrw
  clear g3 hg4 hr3 o3
  go_wp2_with fail
  go_ret2
  exact ⟨L, v, _, rfl, o4, hl, hbd, by omega, g4, _, by omega, hr4⟩

set_option maxHeartbeats 1000000 in
theorem c_DrawBeginsOf (A : Option Addr) (n c : Nat) (w : World) (h : Bs w w.heap.size A n) (hn : n ≤ 1048576) (hc : n ≤ c) :
    Calls Try.prog 11 #[.slice A n c] w fun e w' => ∃ (L : List (Int × Int)) (v : Value) (t : Int), e = .returned (.tuple #[v, .int .i64 t]) ∧ CO w' w.heap.size v L ∧ L.length ≤ 9 ∧ (-100 ≤ t ∧ t ≤ 100) ∧ Below w.heap.size w w' := by
  go_enter Try.func11, Try.ntmps11
  go_wp2_with fail
  refine (c_l20Open A n c _ h hn hc).mono ?_
  rintro e w1 ⟨r, rfl, hr, hb1⟩
  have hs1 := hb1.size
  have hrb := hr.1
  go_wp2_with fail
  refine (c_l20Beside w.heap.size r 0 _ hr (by omega)).mono ?_
  rintro e w2 ⟨L, v, t, rfl, hv, hl, hbd, ht, hg, -⟩
  go_wp2_with fail
  go_ret2
  exact ⟨L, v, t, rfl, hv.mono hs1, hl, ht, hb1.trans (below_grown hg hrb hs1)⟩

set_option maxHeartbeats 1000000 in
theorem c_DrawLeavesBeside (A : Option Addr) (n c : Nat) (w : World) (h : Bs w w.heap.size A n) (hn : n ≤ 1048576) (hc : n ≤ c) :
    Calls Try.prog 18 #[.slice A n c] w fun e w' => ∃ (L : List (Int × Int)) (v : Value) (t : Int), e = .returned (.tuple #[v, .int .i64 t]) ∧ CO w' w.heap.size v L ∧ L.length ≤ 9 ∧ (-100 ≤ t ∧ t ≤ 100) ∧ Below w.heap.size w w' := by
  go_enter Try.func18, Try.ntmps18
  go_wp2_with fail
  refine (c_l20Open A n c _ h hn hc).mono ?_
  rintro e w1 ⟨r, rfl, hr, hb1⟩
  have hs1 := hb1.size
  have hrb := hr.1
  go_wp2_with fail
  refine (c_l20Beside w.heap.size r 0 _ hr (by omega)).mono ?_
  rintro e w2 ⟨L, v, t, rfl, hv, hl, hbd, ht, hg, -⟩
  go_wp2_with fail
  go_ret2
  exact ⟨L, v, t, rfl, hv.mono hs1, hl, ht, hb1.trans (below_grown hg hrb hs1)⟩

set_option maxHeartbeats 1000000 in
theorem c_DrawWaitSum (A : Option Addr) (n c : Nat) (w : World) (h : Bs w w.heap.size A n) (hn : n ≤ 1048576) (hc : n ≤ c) :
    Calls Try.prog 26 #[.slice A n c] w fun e w' => ∃ (L : List (Int × Int)) (v : Value) (t : Int), e = .returned (.tuple #[v, .int .i64 t]) ∧ CO w' w.heap.size v L ∧ L.length ≤ 9 ∧ (-100 ≤ t ∧ t ≤ 100) ∧ Below w.heap.size w w' := by
  go_enter Try.func26, Try.ntmps26
  go_wp2_with fail
  refine (c_l20Open A n c _ h hn hc).mono ?_
  rintro e w1 ⟨r, rfl, hr, hb1⟩
  have hs1 := hb1.size
  have hrb := hr.1
  go_wp2_with fail
  refine (c_l20Beside w.heap.size r 0 _ hr (by omega)).mono ?_
  rintro e w2 ⟨L, v, t, rfl, hv, hl, hbd, ht, hg, -⟩
  go_wp2_with fail
  go_ret2
  exact ⟨L, v, t, rfl, hv.mono hs1, hl, ht, hb1.trans (below_grown hg hrb hs1)⟩

set_option maxHeartbeats 2000000 in
theorem c_DrawServedAt (A : Option Addr) (n c : Nat) (w : World) (h : Bs w w.heap.size A n) (hn : n ≤ 1048576) (hc : n ≤ c) :
    Calls Try.prog 23 #[.slice A n c] w fun e w' => ∃ (L : List (Int × Int)) (v : Value) (t u : Int), e = .returned (.tuple #[v, .int .i64 t, .int .i64 u]) ∧ CO w' w.heap.size v L ∧ L.length ≤ 9 ∧ (-100 ≤ t ∧ t ≤ 100) ∧ (-1000 ≤ u ∧ u ≤ 1000) ∧ Below w.heap.size w w' := by
  go_enter Try.func23, Try.ntmps23
  go_wp2_with fail
  refine (c_l20Open A n c _ h hn hc).mono ?_
  rintro e w1 ⟨r, rfl, hr, hb1⟩
  have hs1 := hb1.size
  have hrb := hr.1
  have hrw := hr.2.1
  go_wp2_with fail
  refine (c_l20Beside w.heap.size r 0 _ hr (by omega)).mono ?_
  rintro e w2 ⟨L, v, t, rfl, hv, hl, hbd, ht, hg, p', hp', hr1⟩
  clear hr
  go_wp2_with fail
  ((with_reducible refine (c_pickI w.heap.size r _ _ _ hr1 (by omega) (by omega) (by omega)).mono ?_))
  rintro e w3 ⟨x3, hx3, rfl, hg3, hr3⟩
  have g3 := hg.trans hg3
  have o3 := hv.grown hg3 hrw
  clear hg hg3 hr1 hv
  go_wp2_with fail
  ((with_reducible refine (c_pickI w.heap.size r _ _ _ hr3 (by omega) (by omega) (by omega)).mono ?_))
  rintro e w4 ⟨x4, hx4, rfl, hg4, hr4⟩
  have g4 := g3.trans hg4
  have o4 := o3.grown hg4 hrw
  clear g3 hg4 hr3 o3
  go_wp2_with fail
  ((with_reducible refine (c_pickI w.heap.size r _ _ _ hr4 (by omega) (by omega) (by omega)).mono ?_))
  rintro e w5 ⟨x5, hx5, rfl, hg5, hr5⟩
  have g5 := g4.trans hg5
  have o5 := o4.grown hg5 hrw
  clear g4 hg5 hr4 o4
  go_wp2_with fail
  refine bodyPost_ret (v := .tuple #[v, .int .i64 t, _]) (by simp [results, Try.results23, go_sem]; rfl) rfl ?_
  exact ⟨L, v, t, _, rfl, o5.mono hs1, hl, ht, by omega, hb1.trans (below_grown g5 hrb hs1)⟩

end Go.Proofs.Ythoendonhkffkaa


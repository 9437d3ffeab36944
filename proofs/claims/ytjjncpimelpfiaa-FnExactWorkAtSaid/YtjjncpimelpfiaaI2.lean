/- draws of a list and a number -/
import Derived.Test.YtjjncpimelpfiaaG2
namespace Go.Proofs.Ytjjncpimelpfiaa
set_option linter.unusedVariables false
open Go.RowKit







set_option maxHeartbeats 2000000 in
theorem c_l20Moment (base r p : Nat) (w : World) (h : Rd w base r p) (hp : p ≤ 800000000) :
    Calls Try.prog 41 #[.pointer (some ⟨r, 0, none⟩)] w fun e w' => ∃ (L : List (Int × Int)) (v : Value) (t : Int), e = .returned (.tuple #[v, .int .i64 t]) ∧ CO w' w.heap.size v L ∧ L.length ≤ 9 ∧ bdL L ∧ (-10000 ≤ t ∧ t ≤ 10000) ∧ w.grownBy w' (some r) := by
  have hrw := h.2.1
  have hbr := h.1
  go_enter Try.func41, Try.ntmps41
  go_wp2_with fail
  refine (c_l20Customers base r p 12 _ h (by omega) (by omega) (by omega)).mono ?_
  rintro e w1 ⟨L, v, rfl, hv, hl, hbd, hg, p', hp', hr⟩
  clear h
  go_wp2_with fail
  ((with_reducible refine (c_pickI base r p' _ _ hr (by omega) (by omega) (by omega)).mono ?_))
  rintro e w2 ⟨x2, hx2, rfl, hg2, hr2⟩
  have g2 := hg.trans hg2
  have o2 := hv.grown hg2 hrw
  clear hg hg2 hr hv
  go_wp2_with fail
  ((with_reducible refine (c_pickI base r _ _ _ hr2 (by omega) (by omega) (by omega)).mono ?_))
  rintro e w3 ⟨x3, hx3, rfl, hg3, hr3⟩
  have g3 := g2.trans hg3
  have o3 := o2.grown hg3 hrw
  clear g2 hg3 hr2 o2
  go_wp2_with fail
  ((with_reducible refine (c_pickI base r _ _ _ hr3 (by omega) (by omega) (by omega)).mono ?_))
  rintro e w4 ⟨x4, hx4, rfl, hg4, hr4⟩
  have g4 := g3.trans hg4
  have o4 := o3.grown hg4 hrw
  clear g3 hg4 hr3 o3 hr4
  go_wp2_with fail
  go_ret2
  exact ⟨L, v, _, rfl, o4, hl, hbd, by omega, g4⟩


set_option maxHeartbeats 2000000 in
theorem c_DrawWorkAt (A : Option Addr) (n c : Nat) (w : World) (h : Bs w w.heap.size A n) (hn : n ≤ 1048576) (hc : n ≤ c) :
    Calls Try.prog 11 #[.slice A n c] w fun e w' => ∃ (L : List (Int × Int)) (v : Value) (t : Int), e = .returned (.tuple #[v, .int .i64 t]) ∧ CO w' w.heap.size v L ∧ L.length ≤ 9 ∧ bdL L ∧ (-10000 ≤ t ∧ t ≤ 10000) ∧ Below w.heap.size w w' := by
  go_enter Try.func11, Try.ntmps11
  go_wp2_with fail
  refine (c_l20Open A n c _ h hn hc).mono ?_
  rintro e w1 ⟨r, rfl, hr, hb1⟩
  have hs1 := hb1.size
  have hrb := hr.1
  go_wp2_with fail
  refine (c_l20Moment w.heap.size r 0 _ hr (by omega)).mono ?_
  rintro e w2 ⟨L, v, t, rfl, hv, hl, hbd, ht, hg⟩
  go_wp2_with fail
  go_ret2
  exact ⟨L, v, t, rfl, hv.mono hs1, hl, hbd, ht, hb1.trans (below_grown hg hrb hs1)⟩




set_option maxHeartbeats 2000000 in
theorem c_DrawServedBy (A : Option Addr) (n c : Nat) (w : World) (h : Bs w w.heap.size A n) (hn : n ≤ 1048576) (hc : n ≤ c) :
    Calls Try.prog 28 #[.slice A n c] w fun e w' => ∃ (L : List (Int × Int)) (v : Value) (t : Int), e = .returned (.tuple #[v, .int .i64 t]) ∧ CO w' w.heap.size v L ∧ L.length ≤ 9 ∧ bdL L ∧ (-10000 ≤ t ∧ t ≤ 10000) ∧ Below w.heap.size w w' := by
  go_enter Try.func28, Try.ntmps28
  go_wp2_with fail
  refine (c_l20Open A n c _ h hn hc).mono ?_
  rintro e w1 ⟨r, rfl, hr, hb1⟩
  have hs1 := hb1.size
  have hrb := hr.1
  go_wp2_with fail
  refine (c_l20Moment w.heap.size r 0 _ hr (by omega)).mono ?_
  rintro e w2 ⟨L, v, t, rfl, hv, hl, hbd, ht, hg⟩
  go_wp2_with fail
  go_ret2
  exact ⟨L, v, t, rfl, hv.mono hs1, hl, hbd, ht, hb1.trans (below_grown hg hrb hs1)⟩



set_option maxHeartbeats 2000000 in
theorem c_DrawComeIn (A : Option Addr) (n c : Nat) (w : World) (h : Bs w w.heap.size A n) (hn : n ≤ 1048576) (hc : n ≤ c) :
    Calls Try.prog 23 #[.slice A n c] w fun e w' => ∃ (L : List (Int × Int)) (v : Value) (t : Int), e = .returned (.tuple #[v, .int .i64 t]) ∧ CO w' w.heap.size v L ∧ L.length ≤ 9 ∧ bdL L ∧ (-10000 ≤ t ∧ t ≤ 10000) ∧ Below w.heap.size w w' := by
  go_enter Try.func23, Try.ntmps23
  go_wp2_with fail
  refine (c_l20Open A n c _ h hn hc).mono ?_
  rintro e w0 ⟨r, rfl, hr0, hb0⟩
  have hs0 := hb0.size
  have hbr := hr0.1
  have hrw := hr0.2.1
  go_wp2_with fail
  refine (c_l20Customers w.heap.size r 0 12 _ hr0 (by omega) (by omega) (by omega)).mono ?_
  rintro e w1 ⟨L, v, rfl, hv, hl, hbd, hg, p', hp', hr⟩
  clear hr0
  go_wp2_with fail
  ((with_reducible refine (c_pickI w.heap.size r p' _ _ hr (by omega) (by omega) (by omega)).mono ?_))
  rintro e w2 ⟨x2, hx2, rfl, hg2, hr2⟩
  have g2 := hg.trans hg2
  have o2 := hv.grown hg2 hrw
  clear hg hg2 hr hv
  go_wp2_with fail
  ((with_reducible refine (c_pickI w.heap.size r _ _ _ hr2 (by omega) (by omega) (by omega)).mono ?_))
  rintro e w3 ⟨x3, hx3, rfl, hg3, hr3⟩
  have g3 := g2.trans hg3
  have o3 := o2.grown hg3 hrw
  clear g2 hg3 hr2 o2
  go_wp2_with fail
  go_ret2
  exact ⟨L, v, _, rfl, o3.mono hs0, hl, hbd, by omega, hb0.trans (below_grown g3 hbr hs0)⟩


end Go.Proofs.Ytjjncpimelpfiaa


/- the draws of chapter 8 (ahead) -/
import Derived.Test.YtmimcgjobgfgfaaI
namespace Go.Proofs.Ytmimcgjobgfgfaa
set_option linter.unusedVariables false
open Go.RowKit
attribute [local go_sem ↓] Go.wp_at_zero Go.wp_at_succ


set_option maxHeartbeats 1000000 in
theorem c_DrawLastTimes (A : Option Addr) (n c : Nat) (w : World) (h : Bs w w.heap.size A n) (hn : n ≤ 1048576) (hc : n ≤ c) :
    Calls Try.prog 11 #[.slice A n c] w fun e w' => ∃ L v, e = .returned v ∧ CO w' w.heap.size v L ∧ L.length ≤ 9 ∧ bdL L ∧ Below w.heap.size w w' := by
  go_enter Try.func11, Try.ntmps11
  go_wp2_with fail
  refine (c_l20Open A n c _ h hn hc).mono ?_
  rintro e w1 ⟨r, rfl, hr, hb1⟩
  have hs1 := hb1.size
  have hrb := hr.1
  go_wp2_with fail
  refine (c_l20Customers w.heap.size r 0 9 _ hr (by omega) (by omega) (by omega)).mono ?_
  rintro e w2 ⟨L, v, rfl, hv, hl, hbd, hg, -⟩
  go_wp2_with fail
  go_ret
  exact ⟨L, v, rfl, hv.mono hs1, hl, hbd, hb1.trans (below_grown hg hrb hs1)⟩




set_option maxHeartbeats 2000000 in
theorem c_DrawPeriodFrom (A : Option Addr) (n c : Nat) (w : World) (h : Bs w w.heap.size A n) (hn : n ≤ 1048576) (hc : n ≤ c) :
    Calls Try.prog 18 #[.slice A n c] w fun e w' => ∃ (L : List (Int × Int)) (v : Value) (t : Int), e = .returned (.tuple #[v, .int .i64 t]) ∧ CO w' w.heap.size v L ∧ L.length ≤ 9 ∧ bdL L ∧ (-10000 ≤ t ∧ t ≤ 10000) ∧ Below w.heap.size w w' := by
  go_enter Try.func18, Try.ntmps18
  go_wp2_with fail
  refine (c_l20Open A n c _ h hn hc).mono ?_
  rintro e w1 ⟨r, rfl, hr, hb1⟩
  have hs1 := hb1.size
  have hrb := hr.1
  go_wp2_with fail
  refine (c_l20Placed w.heap.size r 0 _ hr (by omega)).mono ?_
  rintro e w2 ⟨L, v, t, rfl, hv, hl, hbd, ht, hg⟩
  go_wp2_with fail
  go_ret2
  exact ⟨L, v, t, rfl, hv.mono hs1, hl, hbd, ht, hb1.trans (below_grown hg hrb hs1)⟩




set_option maxHeartbeats 2000000 in
theorem c_DrawLeftFor (A : Option Addr) (n c : Nat) (w : World) (h : Bs w w.heap.size A n) (hn : n ≤ 1048576) (hc : n ≤ c) :
    Calls Try.prog 21 #[.slice A n c] w fun e w' => ∃ (L : List (Int × Int)) (v : Value) (t : Int), e = .returned (.tuple #[v, .int .i64 t]) ∧ CO w' w.heap.size v L ∧ L.length ≤ 9 ∧ bdL L ∧ (-10000 ≤ t ∧ t ≤ 10000) ∧ Below w.heap.size w w' := by
  go_enter Try.func21, Try.ntmps21
  go_wp2_with fail
  refine (c_l20Open A n c _ h hn hc).mono ?_
  rintro e w1 ⟨r, rfl, hr, hb1⟩
  have hs1 := hb1.size
  have hrb := hr.1
  go_wp2_with fail
  refine (c_l20Placed w.heap.size r 0 _ hr (by omega)).mono ?_
  rintro e w2 ⟨L, v, t, rfl, hv, hl, hbd, ht, hg⟩
  go_wp2_with fail
  go_ret2
  exact ⟨L, v, t, rfl, hv.mono hs1, hl, hbd, ht, hb1.trans (below_grown hg hrb hs1)⟩




set_option maxHeartbeats 2000000 in
theorem c_DrawDeepAt (A : Option Addr) (n c : Nat) (w : World) (h : Bs w w.heap.size A n) (hn : n ≤ 1048576) (hc : n ≤ c) :
    Calls Try.prog 24 #[.slice A n c] w fun e w' => ∃ (L : List (Int × Int)) (v : Value) (t : Int), e = .returned (.tuple #[v, .int .i64 t]) ∧ CO w' w.heap.size v L ∧ L.length ≤ 9 ∧ bdL L ∧ (-10000 ≤ t ∧ t ≤ 10000) ∧ Below w.heap.size w w' := by
  go_enter Try.func24, Try.ntmps24
  go_wp2_with fail
  refine (c_l20Open A n c _ h hn hc).mono ?_
  rintro e w1 ⟨r, rfl, hr, hb1⟩
  have hs1 := hb1.size
  have hrb := hr.1
  go_wp2_with fail
  refine (c_l20Placed w.heap.size r 0 _ hr (by omega)).mono ?_
  rintro e w2 ⟨L, v, t, rfl, hv, hl, hbd, ht, hg⟩
  go_wp2_with fail
  go_ret2
  exact ⟨L, v, t, rfl, hv.mono hs1, hl, hbd, ht, hb1.trans (below_grown hg hrb hs1)⟩



end Go.Proofs.Ytmimcgjobgfgfaa


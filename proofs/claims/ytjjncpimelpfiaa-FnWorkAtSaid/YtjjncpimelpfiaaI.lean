/- draws of lists -/
import Derived.Test.YtjjncpimelpfiaaG2
namespace Go.Proofs.Ytjjncpimelpfiaa
set_option linter.unusedVariables false
open Go.RowKit










set_option maxHeartbeats 1000000 in
theorem c_DrawBusyOf (A : Option Addr) (n c : Nat) (w : World) (h : Bs w w.heap.size A n) (hn : n ≤ 1048576) (hc : n ≤ c) :
    Calls Try.prog 18 #[.slice A n c] w fun e w' => ∃ L v, e = .returned v ∧ CO w' w.heap.size v L ∧ L.length ≤ 9 ∧ bdL L ∧ Below w.heap.size w w' := by
  go_enter Try.func18, Try.ntmps18
  go_wp2_with fail
  refine (c_l20Open A n c _ h hn hc).mono ?_
  rintro e w1 ⟨r, rfl, hr, hb1⟩
  have hs1 := hb1.size
  have hrb := hr.1
  go_wp2_with fail
  refine (c_l20Customers w.heap.size r 0 9 _ hr (by omega) (by omega) (by omega)).mono ?_
  rintro e w2 ⟨L, v, rfl, hv, hl, hbd, hg, -⟩
  go_wp2_with fail
  go_ret
  exact ⟨L, v, rfl, hv.mono hs1, hl, hbd, hb1.trans (below_grown hg hrb hs1)⟩




end Go.Proofs.Ytjjncpimelpfiaa


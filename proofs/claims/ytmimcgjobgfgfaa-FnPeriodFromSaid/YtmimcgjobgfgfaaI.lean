/- draws of lists · draws of a list and a number -/
import Derived.Test.YtmimcgjobgfgfaaG2
namespace Go.Proofs.Ytmimcgjobgfgfaa
set_option linter.unusedVariables false
open Go.RowKit












end Go.Proofs.Ytmimcgjobgfgfaa

namespace Go.Proofs.Ytmimcgjobgfgfaa
set_option linter.unusedVariables false
open Go.RowKit


set_option maxHeartbeats 2000000 in
theorem c_l20Placed (base r p : Nat) (w : World) (h : Rd w base r p) (hp : p ≤ 800000000) :
    Calls Try.prog 44 #[.pointer (some ⟨r, 0, none⟩)] w fun e w' => ∃ (L : List (Int × Int)) (v : Value) (t : Int), e = .returned (.tuple #[v, .int .i64 t]) ∧ CO w' w.heap.size v L ∧ L.length ≤ 9 ∧ bdL L ∧ (-10000 ≤ t ∧ t ≤ 10000) ∧ w.grownBy w' (some r) := by
  have hrw := h.2.1
  have hbr := h.1
  go_enter Try.func44, Try.ntmps44
  go_wp2_with fail
  refine (c_l20Customers base r p 12 _ h (by omega) (by omega) (by omega)).mono ?_
  rintro e w1 ⟨L, v, rfl, hv, hl, hbd, hg, p', hp', hr⟩
  clear h
  obtain ⟨A, d, rfl, hd1, hd2, -⟩ := hv.form
  go_wp2_with fail
  ((with_reducible refine (c_pickI base r p' _ _ hr (by omega) (by omega) (by omega)).mono ?_))
  rintro e w2 ⟨x2, hx2, rfl, hg2, hr2⟩
  have g2 := hg.trans hg2
  have o2 := hv.grown hg2 hrw
  clear hg hg2 hr hv
  go_wp2_with fail
  ((with_reducible refine (c_pickI base r _ _ _ hr2 (by omega) (by omega) (by omega)).mono ?_))
  rintro e w3 ⟨x3, hx3, rfl, hg3, hr3⟩
  have g3 := g2.trans hg3
  have o3 := o2.grown hg3 hrw
  clear g2 hg3 hr2 o2
  go_wp2_with fail
  go_ret2
  exact ⟨L, _, _, rfl, o3, hl, hbd, by omega, g3⟩










end Go.Proofs.Ytmimcgjobgfgfaa


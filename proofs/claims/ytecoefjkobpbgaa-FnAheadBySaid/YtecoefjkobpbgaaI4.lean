/- draws of customers and an order (ahead of the landing) -/
import Derived.Test.YtecoefjkobpbgaaI3
namespace Go.Proofs.Ytecoefjkobpbgaa
set_option linter.unusedVariables false
open Go.RowKit

theorem orderR_len (L : List (Int × Int)) (r : Int) : (orderR L r).length ≤ 132 := by
  unfold orderR
  split
  · rename_i h
    have hc : cOk L = true := by simp only [byOk, Bool.and_eq_true] at h; exact h.1
    have := lastLeave_bd hc
    rw [orderTo_len]; omega
  · simp

set_option maxHeartbeats 2000000 in
theorem c_l20Served (base r p n : Nat) (w : World) (h : Rd w base r p) (hp : p ≤ 700000000) (hn1 : 1 ≤ n) (hn2 : n ≤ 1000) :
    Calls Try.prog 50 #[.pointer (some ⟨r, 0, none⟩), .int .i64 n] w fun e w' => ∃ (L : List (Int × Int)) (v : Value) (O : List Int) (B : Option Addr) (d : Nat), e = .returned (.tuple #[v, .slice B O.length d]) ∧ CO w' w.heap.size v L ∧ L.length ≤ 9 ∧ bdL L ∧ IsN r w' w'.heap.size B O ∧ O.length ≤ 200 ∧ O.length ≤ d ∧ w.grownBy w' (some r) ∧ ∃ p', p' ≤ p + 1100 ∧ Rd w' base r p' := by
  have hrw := h.2.1
  have hbr := h.1
  go_enter Try.func50, Try.ntmps50
  go_wp2_with fail
  refine (c_l20Customers base r p 14 _ h (by omega) (by omega) (by omega)).mono ?_
  rintro e w1 ⟨L, v, rfl, hv, hl, hbd, hg, p', hp', hr⟩
  clear h
  obtain ⟨A, d, rfl, hd1, hd2, -⟩ := hv.form
  go_wp2_with fail
  ((with_reducible refine (c_pickI base r p' _ _ hr (by omega) (by omega) (by omega)).mono ?_))
  rintro e w2 ⟨x2, hx2, rfl, hg2, hr2⟩
  have g2 := hg.trans hg2
  have o2 := hv.grown hg2 hrw
  have hs2 := g2.size
  clear hg hg2 hr hv
  by_cases hx0 : x2 = 0
  · have hxb : ((x2 : Int) == 0) = true := beq_iff_eq.2 (by omega)
    clear hx0
    go_wp2_with fail
    ((with_reducible refine (c_pickI base r _ _ _ hr2 (by omega) (by omega) (by omega)).mono ?_))
    rintro e w3 ⟨x3, hx3, rfl, hg3, hr3⟩
    have g3 := g2.trans hg3
    have o3 := o2.grown hg3 hrw
    have hs3 := g3.size
    clear g2 hg3 hr2 o2
    go_wp2_with fail
    refine (c_sOrderBy L A d _ _ o3.cs (by omega)).mono ?_
    rintro e w4 ⟨v4, rfl, o4, hb4⟩
    obtain ⟨B, e4, rfl, he4, -, -⟩ := o4.form
    have hI4 := o4.isN (r := r) (by omega)
    go_wp2_with fail
    go_ret2
    have := orderR_len L x3
    exact ⟨L, _, orderR L x3, B, e4, rfl, o3.below hb4 (Nat.le_refl _), hl, hbd, hI4, by omega, he4, grown_thenB g3 (hb4.mono hs3), _, by omega, hr3.keepB hb4 (by omega) (by omega)⟩
  · have hxb : ((x2 : Int) == 0) = false := beq_eq_false_iff_ne.2 (by omega)
    clear hx0
    go_wp2_with fail
    refine (c_l20Order base r _ n w.heap.size L A d _ hr2 (by omega) hn1 hn2 o2 hrw hl).mono ?_
    rintro e w3 ⟨O, B, d3, rfl, hO, ho, hd3, hg3, p3, hp3, hr3⟩
    have g3 := g2.trans hg3
    have o3 := o2.grown hg3 hrw
    go_wp2_with fail
    go_ret2
    exact ⟨L, _, O, B, d3, rfl, o3, hl, hbd, hO, by omega, hd3, g3, p3, by omega, hr3⟩


























end Go.Proofs.Ytecoefjkobpbgaa


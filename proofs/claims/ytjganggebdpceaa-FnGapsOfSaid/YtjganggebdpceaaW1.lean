/- walks of the laws of chapter 1, first part -/
import Derived.Test.YtjganggebdpceaaI
import Derived.Test.YtjganggebdpceaaH
import Derived.Test.YtjganggebdpceaaD
namespace Go.Proofs.Ytjganggebdpceaa
set_option linter.unusedVariables false
open Go.RowKit

set_option maxHeartbeats 2000000 in
theorem w_FnCustomersOk (A : Option Addr) (n c : Nat) (w : World) (h : Bs w w.heap.size A n) (hc : n ≤ c) :
    Calls Try.prog 3 #[.slice A n c] w fun e w' => e = .returned (.bool true) ∧ Below w.heap.size w w' := by
  by_cases hn : n ≤ 1048576
  · go_enter Try.func3, Try.ntmps3
    go_wp2_with fail
    refine (c_DrawCustomersOk A n c _ h hn hc).mono ?_
    rintro e w1 ⟨L, v, rfl, hv, hl, -, hb1⟩
    obtain ⟨B, d, rfl, hd1, hd2, hB⟩ := hv.form
    have hs1 := hb1.size
    clear hv
    go_wp2_with fail
    refine (c_iCustomersOk L B d _ hB (by omega)).mono ?_
    rintro e w2 ⟨rfl, hb2⟩
    have hs2 := hb2.size
    have hB2 := (hB.below hb2).more hs2
    go_wp2_with fail
    refine (c_sCustomersOk L B d _ hB2 (by omega)).mono ?_
    rintro e w3 ⟨rfl, hb3⟩
    have hs3 := hb3.size
    have hB3 := (hB2.below hb3).more hs3
    have hb123 : Below w.heap.size w w3 := (hb1.trans (hb2.mono hs1)).trans (hb3.mono (Nat.le_trans hs1 hs2))
    clear hb1 hb2 hb3 hB hB2
    go_wp2_with fail
    have e0 : cOk [] = true := by decide
    have e1 : cOk [(0, 1)] = true := by decide
    refine (c_iCustomersOk [] _ 0 _ (cells0 _ _ _) (by simp)).mono ?_
    rintro e w4 ⟨rfl, hb4⟩
    rw [e0]
    have hbx : Below w.heap.size w w4 := hb123.trans ((show Below w3.heap.size w3 w4 from Below.trans (by (repeat (first | exact rfl | exact Below.refl _ _ | (with_reducible refine Below.drew ?_) | (with_reducible refine Below.drewN ?_ _) | (with_reducible refine Below.alloc ?_ ?_ _) | (with_reducible refine Below.setCell ?_ ?_ _) | (show _ ≤ _; focus (first | omega | (simp; done) | (simp; omega)))))) (hb4.mono (by simp))).mono (by omega))
    have hs4 : w3.heap.size ≤ w4.heap.size := by have := hb4.size; simp at this; omega
    have hB4 : Cs w4 w4.heap.size B L := (hB3.below (show Below w3.heap.size w3 w4 from Below.trans (by (repeat (first | exact rfl | exact Below.refl _ _ | (with_reducible refine Below.drew ?_) | (with_reducible refine Below.drewN ?_ _) | (with_reducible refine Below.alloc ?_ ?_ _) | (with_reducible refine Below.setCell ?_ ?_ _) | (show _ ≤ _; focus (first | omega | (simp; done) | (simp; omega)))))) (hb4.mono (by simp)))).more hs4
    clear hb123 hb4 hB3
    go_wp2_with fail
    refine (c_iCustomersOk [(0, 1)] _ 1 _ (cells1 _ _ _) (by simp)).mono ?_
    rintro e w5 ⟨rfl, hb5⟩
    rw [e1]
    have h45 : Below w4.heap.size w4 w5 := Below.trans (by (repeat (first | exact rfl | exact Below.refl _ _ | (with_reducible refine Below.drew ?_) | (with_reducible refine Below.drewN ?_ _) | (with_reducible refine Below.alloc ?_ ?_ _) | (with_reducible refine Below.setCell ?_ ?_ _) | (show _ ≤ _; focus (first | omega | (simp; done) | (simp; omega)))))) (hb5.mono (by simp))
    have hs5 := h45.size
    have hby := hbx.trans (h45.mono (by omega))
    have hB5 := (hB4.below h45).more hs5
    clear hbx h45 hb5 hB4
    by_cases hok : cOk L = true
    · have Hok := Lib.hid hok; clear hok
      rw [Hok.out]
      by_cases hL : L.length = 0
      · have hLb : ((L.length : Int) == 0) = true := beq_iff_eq.2 (by omega)
        go_wp2_with fail
        refine (c_alive _).mono ?_
        rintro e w6 ⟨rfl, hb6⟩
        go_wp2_with fail
        go_ret
        exact ⟨rfl, hby.trans (hb6.mono (Nat.le_trans hby.size (Nat.le_refl _)))⟩
      · have hLb : ((L.length : Int) == 0) = false := beq_eq_false_iff_ne.2 (by omega)
        have hL1 : (0 : Int) ≤ (L.length : Int) - 1 := by omega
        go_wp2_with fail
        have ht := len_take (L := L) (n := L.length - 1) (by omega)
        have K := c_iCustomersOk (L.take (L.length - 1)) B d _ (hB5.take (L.length - 1)) (by rw [ht]; omega)
        rw [ht] at K
        refine K.mono ?_
        rintro e w6 ⟨rfl, hb6⟩
        rw [cOk_take Hok.out (by omega)]
        have hs6 := hb6.size
        go_wp2_with fail
        refine (c_alive _).mono ?_
        rintro e w7 ⟨rfl, hb7⟩
        go_wp2_with fail
        go_ret
        exact ⟨rfl, (hby.trans (hb6.mono (by omega))).trans (hb7.mono (by omega))⟩
    · have hno : cOk L = false := by simpa using hok
      have Hok := Lib.hid hno; clear hok hno
      rw [Hok.out]
      go_wp2_with fail
      refine (c_alive _).mono ?_
      rintro e w6 ⟨rfl, hb6⟩
      go_wp2_with fail
      go_ret
      exact ⟨rfl, hby.trans (hb6.mono (Nat.le_trans hby.size (Nat.le_refl _)))⟩
  · go_enter Try.func3, Try.ntmps3
    go_wp2
    go_ret
    exact ⟨rfl, Below.refl _ _⟩
end Go.Proofs.Ytjganggebdpceaa

/- walks of the laws of chapter 3, first part: FnWorkAt, FnServedBy -/
import Derived.Test.YtjjncpimelpfiaaKI
import Derived.Test.YtjjncpimelpfiaaW2
import Derived.Test.YtjjncpimelpfiaaR2
namespace Go.Proofs.Ytjjncpimelpfiaa
set_option linter.unusedVariables false
open Go.RowKit
attribute [local go_sem ↓] Go.wp_at_zero Go.wp_at_succ

set_option maxHeartbeats 4000000 in
theorem w_FnWorkAt (A : Option Addr) (n c : Nat) (w : World) (h : Bs w w.heap.size A n) (hc : n ≤ c) :
    Calls Try.prog 3 #[.slice A n c] w fun e w' => e = .returned (.bool true) ∧ Below w.heap.size w w' := by
  by_cases hn : n ≤ 1048576
  · go_enter Try.func3, Try.ntmps3
    go_wp2_with fail
    refine (c_DrawWorkAt A n c _ h hn hc).mono ?_
    rintro e w1 ⟨L, v, t, rfl, hv, hl, -, ht, hb1⟩
    obtain ⟨B, d, rfl, hd1, hd2, hB⟩ := hv.form
    have hs1 := hb1.size
    clear hv
    go_wp2_with fail
    refine (c_iWorkAt L B d t _ hB (by omega)).mono ?_
    rintro e w2 ⟨rfl, hb2⟩
    have k2 := hb1.trans (hb2.mono hs1)
    have hs2 := k2.size
    have hB2 := (hB.below hb2).more hb2.size
    clear hb1 hb2 hB
    go_wp2_with fail
    refine (c_sWorkAt L B d t _ hB2 (by omega)).mono ?_
    rintro e w3 ⟨rfl, hb3⟩
    have k3 := k2.trans (hb3.mono hs2)
    have hs3 := k3.size
    have hB3 := (hB2.below hb3).more hb3.size
    clear k2 hb3 hB2
    by_cases hp : momentOk L t = true
    · have hV := workV_yes hp
      have hS := servedV_yes hp
      obtain ⟨m, rfl, hm2, hok⟩ := momentOk_nat hp
      have e1 : ((m : Int)).toNat = m := by simp
      rw [e1] at hV hS
      have HV := Lib.hid hV
      have HS := Lib.hid hS
      have HC := Lib.hid (comeV_yes (L := L) (t := (m : Int)) (by simp [comeOk, hok]; omega))
      have hws := wk_srv hok m
      have hwb := wk_bd hok m
      have hsb := srv_nn (L := L) m
      have hll := lastLeave_bd hok
      have hend : ¬ (m : Int) < lastLeave L → wk L m = 0 := fun hx => wk_end hok (by omega)
      have HE := Lib.hid hend
      have e2 : (wk L m + srv L m == sumTo L (cnt L m)) = true := beq_iff_eq.2 hws
      clear hV hS hp e1 hws hend hok
      rw [HV.out]
      obtain ⟨hw1, hw2⟩ := hwb
      go_wp2_with fail
      refine (c_iComeByV L B d (m : Int) _ _ _ HC.out _ hB3 hd1 (by omega)).mono ?_
      rintro e w4 ⟨rfl, hb4⟩
      have k4 := k3.trans (hb4.mono hs3)
      have hs4 := k4.size
      have hB4 := (hB3.below hb4).more hb4.size
      clear k3 hb4 hB3
      have K := fun W (hW : Cs W W.heap.size B L) => c_iServedBy L B d (m : Int) W hW (by omega)
      rw [HS.out] at K
      have HK := Lib.hid K
      clear K
      go_wp2_with fail
      refine (HK.out _ hB4).mono ?_
      rintro e w5 ⟨rfl, hb5⟩
      have k5 := k4.trans (hb5.mono hs4)
      have hs5 := k5.size
      have hB5 := (hB4.below hb5).more hb5.size
      clear k4 hb5 hB4
      by_cases hx : (m : Int) < lastLeave L
      · go_wp2_with fail
        refine (c_iLastLeave L B d _ hB5 (by omega)).mono ?_
        rintro e w6 ⟨rfl, hb6⟩
        have k6 := k5.trans (hb6.mono hs5)
        have hs6 := k6.size
        go_wp2_with fail
        refine (c_alive _).mono ?_
        rintro e w7 ⟨rfl, hb7⟩
        go_wp2_with fail
        go_ret
        exact ⟨rfl, k6.trans (hb7.mono hs6)⟩
      · have e3 : (wk L m == 0) = true := beq_iff_eq.2 (HE.out (by omega))
        go_wp2_with fail
        refine (c_iLastLeave L B d _ hB5 (by omega)).mono ?_
        rintro e w6 ⟨rfl, hb6⟩
        have k6 := k5.trans (hb6.mono hs5)
        have hs6 := k6.size
        go_wp2_with fail
        refine (c_alive _).mono ?_
        rintro e w7 ⟨rfl, hb7⟩
        go_wp2_with fail
        go_ret
        exact ⟨rfl, k6.trans (hb7.mono hs6)⟩
    · have hno : momentOk L t = false := by simpa using hp
      have HN := Lib.hid (workV_no hno)
      clear hp hno
      rw [HN.out]
      go_wp2_with fail
      refine (c_alive _).mono ?_
      rintro e w6 ⟨rfl, hb6⟩
      go_wp2_with fail
      go_ret
      exact ⟨rfl, k3.trans (hb6.mono hs3)⟩
  · go_enter Try.func3, Try.ntmps3
    go_wp2
    go_ret
    exact ⟨rfl, Below.refl _ _⟩

set_option maxHeartbeats 4000000 in
theorem w_FnServedBy (A : Option Addr) (n c : Nat) (w : World) (h : Bs w w.heap.size A n) (hc : n ≤ c) :
    Calls Try.prog 6 #[.slice A n c] w fun e w' => e = .returned (.bool true) ∧ Below w.heap.size w w' := by
  by_cases hn : n ≤ 1048576
  · go_enter Try.func6, Try.ntmps6
    go_wp2_with fail
    refine (c_DrawServedBy A n c _ h hn hc).mono ?_
    rintro e w1 ⟨L, v, t, rfl, hv, hl, -, ht, hb1⟩
    obtain ⟨B, d, rfl, hd1, hd2, hB⟩ := hv.form
    have hs1 := hb1.size
    clear hv
    go_wp2_with fail
    refine (c_iServedBy L B d t _ hB (by omega)).mono ?_
    rintro e w2 ⟨rfl, hb2⟩
    have k2 := hb1.trans (hb2.mono hs1)
    have hs2 := k2.size
    have hB2 := (hB.below hb2).more hb2.size
    clear hb1 hb2 hB
    go_wp2_with fail
    refine (c_sServedBy L B d t _ hB2 (by omega)).mono ?_
    rintro e w3 ⟨rfl, hb3⟩
    have k3 := k2.trans (hb3.mono hs2)
    have hs3 := k3.size
    have hB3 := (hB2.below hb3).more hb3.size
    clear k2 hb3 hB2
    by_cases hp : momentOk L t = true
    · have hS := servedV_yes hp
      obtain ⟨m, rfl, hm2, hok⟩ := momentOk_nat hp
      have e1 : ((m : Int)).toNat = m := by simp
      rw [e1] at hS
      have HS := Lib.hid hS
      have hsb := srv_nn (L := L) m
      have h200 : servedV L 200 = needOf L := by
        rw [servedV_yes (by simp [momentOk, hok])]
        exact srv_end hok
      have H200 := Lib.hid h200
      have hnx : (m = 200 ∧ servedV L ((m : Int) + 1) = -1) ∨ (servedV L ((m : Int) + 1) = srv L m) ∨ (servedV L ((m : Int) + 1) = srv L m + 1) := by
        by_cases e : m = 200
        · left; refine ⟨e, ?_⟩; subst e; exact servedV_no (by simp [momentOk])
        · right
          rw [servedV_yes (by simp [momentOk, hok]; omega), show ((m : Int) + 1).toNat = m + 1 by omega]
          simp only [srv]
          split
          · right; rfl
          · left; omega
      clear hS hp e1 hok h200
      rw [HS.out]
      obtain ⟨hw1, hw2⟩ := hsb
      have K := fun W (hW : Cs W W.heap.size B L) => c_iServedBy L B d 200 W hW (by omega)
      rw [H200.out] at K
      have HK := Lib.hid K
      clear K
      rcases hnx with ⟨-, hx⟩ | hx | hx
      all_goals
        have HX := Lib.hid hx
        clear hx
        go_wp2_with fail
        refine (c_iServedBy L B d ((m : Int) + 1) _ hB3 (by omega)).mono ?_
        rintro e w4 ⟨rfl, hb4⟩
        rw [HX.out]
        have k4 := k3.trans (hb4.mono hs3)
        have hs4 := k4.size
        have hB4 := (hB3.below hb4).more hb4.size
        go_wp2_with fail
        refine (HK.out _ hB4).mono ?_
        rintro e w5 ⟨rfl, hb5⟩
        have k5 := k4.trans (hb5.mono hs4)
        have hs5 := k5.size
        have hB5 := (hB4.below hb5).more hb5.size
        go_wp2_with fail
        refine (c_iNeedOf L B d _ hB5 (by omega)).mono ?_
        rintro e w6 ⟨rfl, hb6⟩
        have k6 := k5.trans (hb6.mono hs5)
        have hs6 := k6.size
        go_wp2_with fail
        refine (c_alive _).mono ?_
        rintro e w7 ⟨rfl, hb7⟩
        go_wp2_with fail
        go_ret
        exact ⟨rfl, k6.trans (hb7.mono hs6)⟩
    · have hno : momentOk L t = false := by simpa using hp
      have HN := Lib.hid (servedV_no hno)
      clear hp hno
      rw [HN.out]
      go_wp2_with fail
      refine (c_alive _).mono ?_
      rintro e w6 ⟨rfl, hb6⟩
      go_wp2_with fail
      go_ret
      exact ⟨rfl, k3.trans (hb6.mono hs3)⟩
  · go_enter Try.func6, Try.ntmps6
    go_wp2
    go_ret
    exact ⟨rfl, Below.refl _ _⟩

end Go.Proofs.Ytjjncpimelpfiaa


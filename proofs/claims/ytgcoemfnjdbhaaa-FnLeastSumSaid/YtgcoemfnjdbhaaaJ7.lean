/- walks of the laws of chapter 5, first part: FnSumOf, FnThereAt (over the program's contracts) -/
import Derived.Test.YtgcoemfnjdbhaaaKL
import Derived.Test.YtgcoemfnjdbhaaaI4
import Derived.Test.YtgcoemfnjdbhaaaW1
namespace Go.Proofs.Ytgcoemfnjdbhaaa
set_option linter.unusedVariables false
open Go.RowKit
attribute [local go_sem ↓] Go.wp_at_zero Go.wp_at_succ

theorem sum_facts {L : List (Int × Int)} {o : List Int} (h : ordOk L o = true) : 0 ≤ sumV L o ∧ sumV L o ≤ 2000 ∧ leastV L ≤ sumV L o ∧ needOf L ≤ sumV L o ∧ 0 ≤ leastV L := by
  obtain ⟨hc, _, _, _⟩ := ordOk_parts h
  have hlen := cOk_len hc
  have b := tmTo_bd h L.length (Nat.le_refl _)
  have l := least_le h
  have n := tmTo_need h L.length (Nat.le_refl _)
  obtain ⟨T, hT, _⟩ := lastLeave_nat hc
  have b2 := tmTo_bd (orderTo_ok hc 2 hT) L.length (Nat.le_refl _)
  have e : leastV L = tmTo L (orderTo L 2 T) L.length := by rw [leastV_yes hc, orderR_two hc (by omega) hT]
  have e2 : needOf L = sumTo L L.length := by simp [needOf, hc]
  rw [sumV_yes h, e2]
  omega

set_option maxRecDepth 4000 in
set_option maxHeartbeats 8000000 in
theorem w_FnSumOf (A : Option Addr) (n c : Nat) (w : World) (h : Bs w w.heap.size A n) (hc : n ≤ c) :
    Calls Try.prog 4 #[.slice A n c] w fun e w' => e = .returned (.bool true) ∧ Below w.heap.size w w' := by
  by_cases hn : n ≤ 1048576
  · go_enter Try.func4, Try.ntmps4
    go_wp2_with fail
    refine (c_DrawSumOf A n c _ h hn hc).mono ?_
    rintro e w1 ⟨L, v, O, B, d, rfl, hv, hl, -, hO, ho, hd, hb1⟩
    obtain ⟨D, dd, rfl, hd1, hd2, hD⟩ := hv.form
    have hs1 := hb1.size
    clear hv h
    go_wp2_with fail
    refine (c_iSumOf L O D B dd d _ hD hO (by omega) (by omega)).mono ?_
    rintro e w2 ⟨rfl, hb2⟩
    have k2 := hb1.trans (hb2.mono hs1)
    have hs2 := k2.size
    have hD2 := (hD.below hb2).more hb2.size
    have hO2 := (hO.below hb2).more hb2.size
    clear hb1 hb2 hD hO
    go_wp2_with fail
    refine (c_sSumOf L O D B dd d _ hD2 hO2 (by omega) (by omega)).mono ?_
    rintro e w3 ⟨rfl, hb3⟩
    have k3 := k2.trans (hb3.mono hs2)
    have hs3 := k3.size
    have hD3 := (hD2.below hb3).more hb3.size
    clear k2 hb3 hD2 hO2
    cases hok : ordOk L O with
    | true =>
      obtain ⟨f1, f2, f3, f4, f5⟩ := sum_facts hok
      have KL := Lib.hid (fun W hW => c_iLeastSum L D dd W hW hd1 (by omega))
      have KN := Lib.hid (fun W hW => c_iNeedOf L D dd W hW (by omega))
      clear hok
      generalize sumV L O = sv at *
      generalize leastV L = lv at *
      generalize needOf L = nv at *
      have hne : (sv != sv) = false := by simp
      have d0 : decide (sv < 0) = false := decide_eq_false (by omega)
      have d1 : decide (lv ≤ sv) = true := decide_eq_true f3
      have d2 : decide (nv ≤ sv) = true := decide_eq_true f4
      have d3 : decide (0 ≤ lv) = true := decide_eq_true f5
      clear f1 f2 f3 f4 f5
      go_wp2_with fail
      refine (KL.out _ hD3).mono ?_
      rintro e w4 ⟨rfl, hb4⟩
      have k4 := k3.trans (hb4.mono hs3)
      have hs4 := k4.size
      have hD4 := (hD3.below hb4).more hb4.size
      clear k3 hb4 hD3
      go_wp2_with fail
      refine (KN.out _ hD4).mono ?_
      rintro e w5 ⟨rfl, hb5⟩
      have k5 := k4.trans (hb5.mono hs4)
      have hs5 := k5.size
      have hD5 := (hD4.below hb5).more hb5.size
      clear k4 hb5 hD4
      go_wp2_with fail
      refine (KL.out _ hD5).mono ?_
      rintro e w6 ⟨rfl, hb6⟩
      have k6 := k5.trans (hb6.mono hs5)
      clear k5 hb6 hD5
      go_wp2_with fail
      refine (c_alive _).mono ?_
      rintro e w7 ⟨rfl, hb7⟩
      go_wp2_with fail
      go_ret
      exact ⟨rfl, k6.trans (hb7.mono k6.size)⟩
    | false =>
      have HV := Lib.hid (sumV_no hok)
      rw [HV.out]
      clear hok
      go_wp2_with fail
      refine (c_alive _).mono ?_
      rintro e w6 ⟨rfl, hb6⟩
      go_wp2_with fail
      go_ret
      exact ⟨rfl, k3.trans (hb6.mono hs3)⟩
  · go_enter Try.func4, Try.ntmps4
    go_wp2_with fail
    go_ret
    exact ⟨rfl, Below.refl _ _⟩

set_option maxRecDepth 4000 in
set_option maxHeartbeats 8000000 in
theorem w_FnThereAt (A : Option Addr) (n c : Nat) (w : World) (h : Bs w w.heap.size A n) (hc : n ≤ c) :
    Calls Try.prog 5 #[.slice A n c] w fun e w' => e = .returned (.bool true) ∧ Below w.heap.size w w' := by
  by_cases hn : n ≤ 1048576
  · go_enter Try.func5, Try.ntmps5
    go_wp2_with fail
    refine (c_DrawThereAt A n c _ h hn hc).mono ?_
    rintro e w1 ⟨L, v, O, B, d, t, rfl, hv, hl, -, hO, ho, hd, -, hb1⟩
    obtain ⟨D, dd, rfl, hd1, hd2, hD⟩ := hv.form
    have hs1 := hb1.size
    clear hv h
    go_wp2_with fail
    refine (c_iThereAt L O D B dd d t _ hD hO (by omega) (by omega)).mono ?_
    rintro e w2 ⟨rfl, hb2⟩
    have k2 := hb1.trans (hb2.mono hs1)
    have hs2 := k2.size
    have hD2 := (hD.below hb2).more hb2.size
    have hO2 := (hO.below hb2).more hb2.size
    clear hb1 hb2 hD hO
    go_wp2_with fail
    refine (c_sThereAt L O D B dd d t _ hD2 hO2 (by omega) (by omega)).mono ?_
    rintro e w3 ⟨rfl, hb3⟩
    have k3 := k2.trans (hb3.mono hs2)
    have hs3 := k3.size
    have hD3 := (hD2.below hb3).more hb3.size
    clear k2 hb3 hD2 hO2
    by_cases hp : ordOk L O = true ∧ 0 ≤ t ∧ t ≤ 199
    · obtain ⟨hok, ht0, ht1⟩ := hp
      obtain ⟨hco, _, _, _⟩ := ordOk_parts hok
      obtain ⟨m, rfl⟩ := Int.eq_ofNat_of_zero_le ht0
      have hR : ordOk L (orderR L 2) = true := by
        obtain ⟨T, hT, _⟩ := lastLeave_nat hco
        rw [orderR_two hco (by omega) hT]; exact orderTo_ok hco 2 hT
      have f1 : thereV L O (m : Int) = thereN L O m L.length := thereV_yes hok ⟨ht0, ht1⟩
      have f2 : thereV L (orderR L 2) (m : Int) = thereN L (orderR L 2) m L.length := thereV_yes hR ⟨ht0, ht1⟩
      have f3 := there_two hok m
      have f4 := thereN_bd L O (m : Int) L.length
      have f5 := thereN_bd L (orderR L 2) (m : Int) L.length
      have KO := Lib.hid (fun W hW => c_sOrderBy L D dd 2 W hW (by omega))
      have hRl := orderR_len L 2
      have KT := Lib.hid (fun E e W hW hE => c_iThereAt L (orderR L 2) D E dd e (m : Int) W hW hE (by omega) (by omega))
      rw [f2] at KT
      rw [f1]
      clear hok hR f1 f2 hco
      generalize thereN L O (m : Int) L.length = tv at *
      generalize thereN L (orderR L 2) (m : Int) L.length = t2 at *
      have hne : (tv != tv) = false := by simp
      have d0 : decide (tv < 0) = false := decide_eq_false (by omega)
      have d1 : decide (0 ≤ t2) = true := decide_eq_true f5.1
      have d2 : decide (t2 ≤ tv) = true := decide_eq_true f3
      have d3 : decide (tv ≤ (L.length : Int)) = true := decide_eq_true f4.2
      clear f3 f4 f5 ht0 ht1
      go_wp2_with fail
      refine (KO.out _ hD3).mono ?_
      rintro e w4 ⟨v4, rfl, o4, hb4⟩
      have k4 := k3.trans (hb4.mono hs3)
      have hs4 := k4.size
      have hD4 := (hD3.below hb4).more hb4.size
      obtain ⟨E4, e4, rfl, -, -, hI4⟩ := o4.form
      clear k3 hb4 hD3 o4
      go_wp2_with fail
      refine (KT.out E4 e4 _ hD4 hI4).mono ?_
      rintro e w5 ⟨rfl, hb5⟩
      have k5 := k4.trans (hb5.mono hs4)
      clear k4 hb5 hD4 hI4
      go_wp2_with fail
      refine (c_alive _).mono ?_
      rintro e w7 ⟨rfl, hb7⟩
      go_wp2_with fail
      go_ret
      exact ⟨rfl, k5.trans (hb7.mono k5.size)⟩
    · have HV := Lib.hid (thereV_no hp)
      rw [HV.out]
      clear hp
      go_wp2_with fail
      refine (c_alive _).mono ?_
      rintro e w6 ⟨rfl, hb6⟩
      go_wp2_with fail
      go_ret
      exact ⟨rfl, k3.trans (hb6.mono hs3)⟩
  · go_enter Try.func5, Try.ntmps5
    go_wp2_with fail
    go_ret
    exact ⟨rfl, Below.refl _ _⟩

end Go.Proofs.Ytgcoemfnjdbhaaa


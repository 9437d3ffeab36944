/- walks of the laws of chapter 6, first part: FnAreaOf, FnWaitingArea (over the program's contracts) -/
import Derived.Test.YtbipeoepcndecaaKM
import Derived.Test.YtbipeoepcndecaaI4
import Derived.Test.YtbipeoepcndecaaW1
namespace Go.Proofs.Ytbipeoepcndecaa
set_option linter.unusedVariables false
open Go.RowKit
attribute [local go_sem ↓] Go.wp_at_zero Go.wp_at_succ

set_option maxRecDepth 4000 in
set_option maxHeartbeats 8000000 in
theorem w_FnAreaOf (A : Option Addr) (n c : Nat) (w : World) (h : Bs w w.heap.size A n) (hc : n ≤ c) :
    Calls Try.prog 3 #[.slice A n c] w fun e w' => e = .returned (.bool true) ∧ Below w.heap.size w w' := by
  by_cases hn : n ≤ 1048576
  · go_enter Try.func3, Try.ntmps3
    go_wp2_with fail
    refine (c_DrawAreaOf A n c _ h hn hc).mono ?_
    rintro e w1 ⟨L, v, O, B, d, rfl, hv, hl, -, hO, ho, hd, hb1⟩
    obtain ⟨D, dd, rfl, hd1, hd2, hD⟩ := hv.form
    have hs1 := hb1.size
    clear hv h
    go_wp2_with fail
    refine (c_iAreaOf L O D B dd d _ hD hO (by omega) (by omega)).mono ?_
    rintro e w2 ⟨rfl, hb2⟩
    have k2 := hb1.trans (hb2.mono hs1)
    have hs2 := k2.size
    have hD2 := (hD.below hb2).more hb2.size
    have hO2 := (hO.below hb2).more hb2.size
    clear hb1 hb2 hD hO
    go_wp2_with fail
    refine (c_sAreaOf L O D B dd d _ hD2 hO2 (by omega) (by omega)).mono ?_
    rintro e w3 ⟨rfl, hb3⟩
    have k3 := k2.trans (hb3.mono hs2)
    have hs3 := k3.size
    have hD3 := (hD2.below hb3).more hb3.size
    have hO3 := (hO2.below hb3).more hb3.size
    clear k2 hb3 hD2 hO2
    cases hok : ordOk L O with
    | true =>
      have f0 := (tmTo_bd hok L.length (Nat.le_refl _)).1
      have KS := Lib.hid (fun W hW hO => c_iSumOf L O D B dd d W hW hO (by omega) (by omega))
      rw [areaV_sum hok]
      rw [← sumV_yes hok] at f0
      clear hok
      generalize sumV L O = sv at *
      have hne : (sv != sv) = false := by simp
      have d0 : decide (sv < 0) = false := decide_eq_false (by omega)
      clear f0
      go_wp2_with fail
      refine (KS.out _ hD3 hO3).mono ?_
      rintro e w4 ⟨rfl, hb4⟩
      have k4 := k3.trans (hb4.mono hs3)
      clear k3 hb4 hD3 hO3
      go_wp2_with fail
      refine (c_alive _).mono ?_
      rintro e w7 ⟨rfl, hb7⟩
      go_wp2_with fail
      go_ret
      exact ⟨rfl, k4.trans (hb7.mono k4.size)⟩
    | false =>
      have HV := Lib.hid (areaV_no hok)
      rw [HV.out]
      clear hok
      go_wp2_with fail
      refine (c_alive _).mono ?_
      rintro e w6 ⟨rfl, hb6⟩
      go_wp2_with fail
      go_ret
      exact ⟨rfl, k3.trans (hb6.mono hs3)⟩
  · go_enter Try.func3, Try.ntmps3
    go_wp2_with fail
    go_ret
    exact ⟨rfl, Below.refl _ _⟩

theorem waitSum_bd {L : List (Int × Int)} (hc : cOk L = true) : ∀ k, k ≤ L.length → 0 ≤ waitSumTo L k ∧ waitSumTo L k ≤ 72 * k := by
  intro k
  induction k with
  | zero => intro _; simp [waitSumTo]
  | succ k ih =>
    intro hk
    have i := ih (by omega)
    have b := waitAt_bd hc k (by omega)
    have hl := cOk_len hc
    simp only [waitSumTo]; omega

set_option maxRecDepth 4000 in
set_option maxHeartbeats 8000000 in
theorem w_FnWaitingArea (A : Option Addr) (n c : Nat) (w : World) (h : Bs w w.heap.size A n) (hc : n ≤ c) :
    Calls Try.prog 4 #[.slice A n c] w fun e w' => e = .returned (.bool true) ∧ Below w.heap.size w w' := by
  by_cases hn : n ≤ 1048576
  · go_enter Try.func4, Try.ntmps4
    go_wp2_with fail
    refine (c_DrawWaitingArea A n c _ h hn hc).mono ?_
    rintro e w1 ⟨L, v, O, B, d, rfl, hv, hl, -, hO, ho, hd, hb1⟩
    obtain ⟨D, dd, rfl, hd1, hd2, hD⟩ := hv.form
    have hs1 := hb1.size
    clear hv h
    go_wp2_with fail
    refine (c_iWaitingArea L O D B dd d _ hD hO (by omega) (by omega)).mono ?_
    rintro e w2 ⟨rfl, hb2⟩
    have k2 := hb1.trans (hb2.mono hs1)
    have hs2 := k2.size
    have hD2 := (hD.below hb2).more hb2.size
    have hO2 := (hO.below hb2).more hb2.size
    clear hb1 hb2 hD hO
    go_wp2_with fail
    refine (c_sWaitingArea L O D B dd d _ hD2 hO2 (by omega) (by omega)).mono ?_
    rintro e w3 ⟨rfl, hb3⟩
    have k3 := k2.trans (hb3.mono hs2)
    have hs3 := k3.size
    have hD3 := (hD2.below hb3).more hb3.size
    have hO3 := (hO2.below hb3).more hb3.size
    clear k2 hb3 hD2 hO2
    cases hok : ordOk L O with
    | true =>
      have hco := (ordOk_parts hok).1
      obtain ⟨f1, f2⟩ := waitingV_nn hok
      have f3 := waitingV_need hok
      have HE := Lib.hid (waits_yes hco)
      have HW := Lib.hid (waiting_first hco)
      have Ht := Lib.hid (fun k (hk : k ≤ L.length) => waitSum_bd hco k hk)
      have Hw := Lib.hid (fun k (hk : k < L.length) => waitAt_bd hco k hk)
      have hRl := orderR_len L 0
      have KW := Lib.hid (fun W hW => c_sWaitsOf L D dd W hW (by omega))
      have KA := Lib.hid (fun W hW hO => c_iAreaOf L O D B dd d W hW hO (by omega) (by omega))
      have KN := Lib.hid (fun W hW => c_iNeedOf L D dd W hW (by omega))
      have KO := Lib.hid (fun W hW => c_sOrderBy L D dd 0 W hW (by omega))
      have KT := Lib.hid (fun E e W hW hE => c_iWaitingArea L (orderR L 0) D E dd e W hW hE (by omega) (by omega))
      have f4 : -10000 ≤ needOf L ∧ needOf L ≤ 10000 := by
        have := sumTo_bd hco L.length (Nat.le_refl _); have := cOk_len hco; simp [needOf, hco]; omega
      clear hok hco
      generalize waitingV L O = sv at *
      generalize areaV L O = av at *
      generalize needOf L = nv at *
      have hne : (sv != sv) = false := by simp
      have d0 : decide (sv < 0) = false := decide_eq_false (by omega)
      have d1 : (sv == av - nv) = true := beq_iff_eq.2 f3
      have q1 : IntKind.i64.wrap (av - nv) = av - nv := IntWalk.i64_in _ (by omega)
      clear f1 f2 f3 f4
      go_wp2_with fail
      refine (KW.out _ hD3).mono ?_
      rintro e w4 ⟨v4, rfl, o4, hb4⟩
      rw [HE.out] at o4
      obtain ⟨G, g, rfl, -, hG⟩ := o4.formG
      rw [waitsTo_len] at hG ⊢
      have HG := Lib.hid hG
      have k4 := k3.trans (hb4.mono hs3)
      have hs4 := k4.size
      have hD4 := (hD3.below hb4).more hb4.size
      have hO4 := (hO3.below hb4).more hb4.size
      clear k3 hb4 hD3 hO3 hG o4 KW HE
      have HD4 := Lib.hid hD4
      have HO4 := Lib.hid hO4
      clear hD4 hO4
      go_wp2_with fail
      go_loop [6, 8] (fun s i => ∃ k : Nat, k ≤ L.length ∧ i = .int .i64 k ∧ s = .int .i64 (waitSumTo L k)) (fun _ i => L.length - (intOf i).toNat)
      case atStart => exact ⟨0, by omega, rfl, rfl⟩
      case round =>
        obtain ⟨k, hk, rfl, rfl⟩ := hrel
        by_cases hlt : k < L.length
        · obtain ⟨gb, rfl, -, hgb, hgc⟩ := HG.out (by omega)
          have c1 := hgc k hlt
          rw [Z_waitsTo hlt] at c1
          have b1 := Ht.out k (by omega)
          have b2 := Hw.out k hlt
          have HS := Lib.hid (show waitSumTo L (k + 1) = waitSumTo L k + waitAt L k from rfl)
          have p1 : (0 : Int) ≤ (k : Int) := by omega
          have p2 : (k : Int) < (L.length : Int) := by omega
          clear hgc
          go_wp2_with fail
          go_round
          case rel => exact ⟨k + 1, by omega, by go_num, by rw [HS.out]⟩
          case measure => simp [intOf]; omega
        · have hlf : ¬ ((k : Int) < (L.length : Int)) := by omega
          obtain rfl : k = L.length := by omega
          have hwe : waitingV L (orderR L 0) = waitSumTo L L.length := HW.out
          generalize waitSumTo L L.length = ws at *
          have d2 : (ws == ws) = true := beq_self_eq_true _
          have hD5 := HD4.out
          have hO5 := HO4.out
          clear Ht Hw
          go_wp2_with fail
          refine (KA.out _ hD5 hO5).mono ?_
          rintro e w5 ⟨rfl, hb5⟩
          have k5 := k4.trans (hb5.mono hs4)
          have hs5 := k5.size
          have hD6 := (hD5.below hb5).more hb5.size
          clear k4 hb5 hD5 hO5
          go_wp2_with fail
          refine (KN.out _ hD6).mono ?_
          rintro e w6 ⟨rfl, hb6⟩
          have k6 := k5.trans (hb6.mono hs5)
          have hs6 := k6.size
          have hD7 := (hD6.below hb6).more hb6.size
          clear k5 hb6 hD6
          go_wp2_with fail
          refine (KO.out _ hD7).mono ?_
          rintro e w7 ⟨v7, rfl, o7, hb7⟩
          have k7 := k6.trans (hb7.mono hs6)
          have hs7 := k7.size
          have hD8 := (hD7.below hb7).more hb7.size
          obtain ⟨E7, e7, rfl, -, -, hI7⟩ := o7.form
          clear k6 hb7 hD7 o7
          go_wp2_with fail
          refine (KT.out E7 e7 _ hD8 hI7).mono ?_
          rintro e w8 ⟨rfl, hb8⟩
          have k8 := k7.trans (hb8.mono hs7)
          rw [hwe]
          clear k7 hb8 hD8 hI7
          go_wp2_with fail
          refine (c_alive _).mono ?_
          rintro e w9 ⟨rfl, hb9⟩
          go_wp2_with fail
          go_ret
          exact ⟨rfl, k8.trans (hb9.mono k8.size)⟩
    | false =>
      have HV := Lib.hid (waitingV_no hok)
      rw [HV.out]
      clear hok
      go_wp2_with fail
      refine (c_alive _).mono ?_
      rintro e w6 ⟨rfl, hb6⟩
      go_wp2_with fail
      go_ret
      exact ⟨rfl, k3.trans (hb6.mono hs3)⟩
  · go_enter Try.func4, Try.ntmps4
    go_wp2_with fail
    go_ret
    exact ⟨rfl, Below.refl _ _⟩

end Go.Proofs.Ytbipeoepcndecaa


/- walks of the laws of chapter 4, first part: FnOrderOk, FnBusyOk (over the program's contracts) -/
import Derived.Test.YtndkeaikafmhcaaKJ
import Derived.Test.YtndkeaikafmhcaaI4
import Derived.Test.YtndkeaikafmhcaaO2
import Derived.Test.YtndkeaikafmhcaaW1
namespace Go.Proofs.Ytndkeaikafmhcaa
set_option linter.unusedVariables false
open Go.RowKit
attribute [local go_sem ↓] Go.wp_at_zero Go.wp_at_succ

theorem orderR_ord {L : List (Int × Int)} (h : cOk L = true) {k : Nat} (hk : k < 4) : ordOk L (orderR L k) = true := by
  obtain ⟨T, hT, -⟩ := lastLeave_nat h
  rw [orderR_yes (by simp [byOk, h]; omega), hT]
  exact orderTo_ok h k hT
theorem orderR_busy {L : List (Int × Int)} (h : cOk L = true) {k : Nat} (hk : k < 4) : busyOk L (orderR L k) = true := by
  obtain ⟨T, hT, -⟩ := lastLeave_nat h
  rw [orderR_yes (by simp [byOk, h]; omega), hT]
  exact orderTo_busy h k hT

set_option maxRecDepth 4000 in
set_option maxHeartbeats 8000000 in
theorem w_FnOrderOk (A : Option Addr) (n c : Nat) (w : World) (h : Bs w w.heap.size A n) (hc : n ≤ c) :
    Calls Try.prog 3 #[.slice A n c] w fun e w' => e = .returned (.bool true) ∧ Below w.heap.size w w' := by
  by_cases hn : n ≤ 1048576
  · go_enter Try.func3, Try.ntmps3
    go_wp2_with fail
    refine (c_DrawOrderOk A n c _ h hn hc).mono ?_
    rintro e w1 ⟨L, v, O, B, d, rfl, hv, hl, -, hO, ho, hd, hb1⟩
    obtain ⟨D, dd, rfl, hd1, hd2, hD⟩ := hv.form
    have hs1 := hb1.size
    clear hv h
    go_wp2_with fail
    refine (c_iOrderOk L O D B dd d _ hD hO (by omega) (by omega)).mono ?_
    rintro e w2 ⟨rfl, hb2⟩
    have k2 := hb1.trans (hb2.mono hs1)
    have hs2 := k2.size
    have hD2 := (hD.below hb2).more hb2.size
    have hO2 := (hO.below hb2).more hb2.size
    clear hb1 hb2 hD hO
    go_wp2_with fail
    refine (c_sOrderOk L O D B dd d _ hD2 hO2 (by omega) (by omega)).mono ?_
    rintro e w3 ⟨rfl, hb3⟩
    have k3 := k2.trans (hb3.mono hs2)
    have hs3 := k3.size
    have hD3 := (hD2.below hb3).more hb3.size
    have hO3 := (hO2.below hb3).more hb3.size
    have hne : (ordOk L O != ordOk L O) = false := by simp
    clear k2 hb3 hD2 hO2
    go_wp2_with fail
    have K3 := Lib.hid k3
    go_loopw [6] (fun i wr => ∃ k : Nat, k ≤ 4 ∧ i = .int .i64 k ∧ Below w3.heap.size w3 wr) (fun i _ => 4 - (intOf i).toNat)
    case atStart => exact ⟨0, by omega, rfl, Below.refl _ _⟩
    case round =>
      obtain ⟨k, hk4, rfl, hbr⟩ := hrel
      have kr := K3.out.trans (hbr.mono hs3)
      have hsr := kr.size
      have hDr := (hD3.below hbr).more hbr.size
      have hOr := (hO3.below hbr).more hbr.size
      by_cases hlt : k < 4
      · have hlt' : (k : Int) < 4 := by omega
        go_wp2_with fail
        refine (c_iCustomersOk L D dd wr hDr (by omega)).mono ?_
        rintro e w5 ⟨rfl, hb5⟩
        have k5 := kr.trans (hb5.mono hsr)
        have hs5 := k5.size
        have hD5 := (hDr.below hb5).more hb5.size
        have hO5 := (hOr.below hb5).more hb5.size
        have hb35 := hbr.trans (hb5.mono hbr.size)
        clear hb5 hDr hOr hbr kr hsr
        cases hok : cOk L with
        | true =>
          have HR := Lib.hid (orderR_ord hok hlt)
          have HL := orderR_len L k
          clear hok
          go_wp2_with fail
          refine (c_iOrderBy L D dd _ w5 hD5 (by omega) (by omega)).mono ?_
          rintro e w6 ⟨v6, rfl, o6, hb6⟩
          obtain ⟨E6, e6, rfl, -, -, hI6⟩ := o6.form
          have hD6 := (hD5.below hb6).more hb6.size
          have k6 := k5.trans (hb6.mono hs5)
          have hs6 := k6.size
          have hb36 := hb35.trans (hb6.mono hb35.size)
          clear o6 hb6 hD5 k5 hb35
          go_wp2_with fail
          refine (c_iOrderOk L (orderR L k) D E6 dd e6 _ hD6 hI6 (by omega) (by omega)).mono ?_
          rintro e w7 ⟨rfl, hb7⟩
          rw [HR.out]
          have hb37 := hb36.trans (hb7.mono hb36.size)
          clear hb7 hD6 hI6 k6 hb36
          go_wp2_with fail
          go_roundw
          case rel => exact ⟨k + 1, by omega, by go_num, hb37⟩
          case measure => simp [intOf]; omega
        | false =>
          have kW := k5
          have hOW := hO5
          have hDW := hD5
          clear k5 hO5 hb35 hne
          cases hk : ordOk L O with
          | false =>
            go_wp2_with fail
            refine (c_alive _).mono ?_
            rintro e w9 ⟨rfl, hb9⟩
            go_wp2_with fail
            go_ret
            exact ⟨rfl, kW.trans (hb9.mono kW.size)⟩
          | true =>
            by_cases h200 : 200 ≤ (O.length : Int)
            · have d200 : decide ((200 : Int) ≤ (O.length : Int)) = true := decide_eq_true h200
              go_wp2_with fail
              refine (c_alive _).mono ?_
              rintro e w9 ⟨rfl, hb9⟩
              go_wp2_with fail
              go_ret
              exact ⟨rfl, kW.trans (hb9.mono kW.size)⟩
            · have d200 : decide ((200 : Int) ≤ (O.length : Int)) = false := decide_eq_false h200
              have HK := Lib.hid (ordOk_idle hk (by omega))
              have ow := IO.empty w5 (Nat.le_refl w5.heap.size)
              have hbW : Below w5.heap.size w5 (w5.alloc (.cells #[] 3)) := (Below.refl _ _).alloc (Nat.le_refl _) _
              have hOW' := (hOW.below hbW).more hbW.size
              have HU := Lib.hid (And.intro ow (And.intro hOW' (And.intro hbW (show O.length ≤ 200 by omega))))
              clear hk h200 ow hbW hOW'
              go_wp2_with (first | (refine app_II ?_ (.tmp 48) (.tmp 49) ?_ w5.heap.size (.slice g7 O.length cap) O [-1] (some ⟨w7.heap.size, 0, none⟩) 1 (w7.heap.size + 1) ?_ ?_ ?_ ?_ ?_ ?_ ?_; rfl; rfl; rfl; exact (hown7.alloc _); rfl; exact (Is.one w7 (-1)); (have := HU.out.2.2.2; simp; omega); exact hsz7; intro g8 cap8 w8 hown8 hgr8 hb8) | (refine app_II ?_ (.tmp 46) (.tmp 47) ?_ w5.heap.size (.slice (some ⟨w5.heap.size, 0, none⟩) 0 0) [] O B d (w5.alloc (.cells #[] 3)).heap.size ?_ ?_ ?_ ?_ ?_ ?_ ?_; rfl; rfl; rfl; exact HU.out.1; rfl; exact HU.out.2.1; (simp only [List.length_nil]; have := HU.out.2.2.2; omega); exact HU.out.2.2.1.size; intro g7 cap w7 hown7 hgr7 hb7; simp only [List.length_nil, Nat.zero_add, List.nil_append] at hown7; have hsz7 : w5.heap.size ≤ (w7.alloc (.cells #[.int .i64 (-1)] 3)).heap.size := by have := HU.out.2.2.1.size; have := hb7.size; simp at *; omega))
              have hbWW : Below w5.heap.size w5 w8 := ((HU.out.2.2.1.trans hb7).alloc (by have := HU.out.2.2.1.size; have := hb7.size; omega) _).trans hb8
              have k8 := kW.trans (hbWW.mono kW.size)
              obtain ⟨E8, e8, e88, -, -, hI8⟩ := hown8.form
              simp only [List.length_append, List.length_cons, List.length_nil, Nat.zero_add] at e88
              injection e88 with e1 e2 e3
              subst e1
              subst e3
              have K := c_iOrderOk L (O ++ [-1]) D g8 dd cap8 w8 ((hDW.below hbWW).more hbWW.size) hI8 (by omega) (by have := HU.out.2.2.2; simp; omega)
              simp only [List.length_append, List.length_cons, List.length_nil, Nat.zero_add] at K
              refine K.mono ?_
              rintro e w9 ⟨rfl, hb9⟩
              rw [HK.out]
              have k9 := k8.trans (hb9.mono k8.size)
              go_wp2_with fail
              refine (c_alive _).mono ?_
              rintro e w10 ⟨rfl, hb10⟩
              go_wp2_with fail
              go_ret
              exact ⟨rfl, k9.trans (hb10.mono k9.size)⟩
      · have hlt' : ¬ ((k : Int) < 4) := by omega
        have kW := kr
        have hOW := hOr
        have hDW := hDr
        clear kr hOr hbr hne
        cases hk : ordOk L O with
        | false =>
          go_wp2_with fail
          refine (c_alive _).mono ?_
          rintro e w9 ⟨rfl, hb9⟩
          go_wp2_with fail
          go_ret
          exact ⟨rfl, kW.trans (hb9.mono kW.size)⟩
        | true =>
          by_cases h200 : 200 ≤ (O.length : Int)
          · have d200 : decide ((200 : Int) ≤ (O.length : Int)) = true := decide_eq_true h200
            go_wp2_with fail
            refine (c_alive _).mono ?_
            rintro e w9 ⟨rfl, hb9⟩
            go_wp2_with fail
            go_ret
            exact ⟨rfl, kW.trans (hb9.mono kW.size)⟩
          · have d200 : decide ((200 : Int) ≤ (O.length : Int)) = false := decide_eq_false h200
            have HK := Lib.hid (ordOk_idle hk (by omega))
            have ow := IO.empty wr (Nat.le_refl wr.heap.size)
            have hbW : Below wr.heap.size wr (wr.alloc (.cells #[] 3)) := (Below.refl _ _).alloc (Nat.le_refl _) _
            have hOW' := (hOW.below hbW).more hbW.size
            have HU := Lib.hid (And.intro ow (And.intro hOW' (And.intro hbW (show O.length ≤ 200 by omega))))
            clear hk h200 ow hbW hOW'
            go_wp2_with (first | (refine app_II ?_ (.tmp 48) (.tmp 49) ?_ wr.heap.size (.slice g7 O.length cap) O [-1] (some ⟨w7.heap.size, 0, none⟩) 1 (w7.heap.size + 1) ?_ ?_ ?_ ?_ ?_ ?_ ?_; rfl; rfl; rfl; exact (hown7.alloc _); rfl; exact (Is.one w7 (-1)); (have := HU.out.2.2.2; simp; omega); exact hsz7; intro g8 cap8 w8 hown8 hgr8 hb8) | (refine app_II ?_ (.tmp 46) (.tmp 47) ?_ wr.heap.size (.slice (some ⟨wr.heap.size, 0, none⟩) 0 0) [] O B d (wr.alloc (.cells #[] 3)).heap.size ?_ ?_ ?_ ?_ ?_ ?_ ?_; rfl; rfl; rfl; exact HU.out.1; rfl; exact HU.out.2.1; (simp only [List.length_nil]; have := HU.out.2.2.2; omega); exact HU.out.2.2.1.size; intro g7 cap w7 hown7 hgr7 hb7; simp only [List.length_nil, Nat.zero_add, List.nil_append] at hown7; have hsz7 : wr.heap.size ≤ (w7.alloc (.cells #[.int .i64 (-1)] 3)).heap.size := by have := HU.out.2.2.1.size; have := hb7.size; simp at *; omega))
            have hbWW : Below wr.heap.size wr w8 := ((HU.out.2.2.1.trans hb7).alloc (by have := HU.out.2.2.1.size; have := hb7.size; omega) _).trans hb8
            have k8 := kW.trans (hbWW.mono kW.size)
            obtain ⟨E8, e8, e88, -, -, hI8⟩ := hown8.form
            simp only [List.length_append, List.length_cons, List.length_nil, Nat.zero_add] at e88
            injection e88 with e1 e2 e3
            subst e1
            subst e3
            have K := c_iOrderOk L (O ++ [-1]) D g8 dd cap8 w8 ((hDW.below hbWW).more hbWW.size) hI8 (by omega) (by have := HU.out.2.2.2; simp; omega)
            simp only [List.length_append, List.length_cons, List.length_nil, Nat.zero_add] at K
            refine K.mono ?_
            rintro e w9 ⟨rfl, hb9⟩
            rw [HK.out]
            have k9 := k8.trans (hb9.mono k8.size)
            go_wp2_with fail
            refine (c_alive _).mono ?_
            rintro e w10 ⟨rfl, hb10⟩
            go_wp2_with fail
            go_ret
            exact ⟨rfl, k9.trans (hb10.mono k9.size)⟩
  · go_enter Try.func3, Try.ntmps3
    go_wp2_with fail
    go_ret
    exact ⟨rfl, Below.refl _ _⟩

theorem busyOk_parts {L : List (Int × Int)} {o : List Int} (h : busyOk L o = true) : ordOk L o = true ∧ (o.length : Int) = lastLeave L := by
  simp only [busyOk, Bool.and_eq_true, decide_eq_true_eq] at h
  exact ⟨h.1.1, h.2⟩

set_option maxRecDepth 4000 in
set_option maxHeartbeats 8000000 in
theorem w_FnBusyOk (A : Option Addr) (n c : Nat) (w : World) (h : Bs w w.heap.size A n) (hc : n ≤ c) :
    Calls Try.prog 4 #[.slice A n c] w fun e w' => e = .returned (.bool true) ∧ Below w.heap.size w w' := by
  by_cases hn : n ≤ 1048576
  · go_enter Try.func4, Try.ntmps4
    go_wp2_with fail
    refine (c_DrawBusyOk A n c _ h hn hc).mono ?_
    rintro e w1 ⟨L, v, O, B, d, rfl, hv, hl, -, hO, ho, hd, hb1⟩
    obtain ⟨D, dd, rfl, hd1, hd2, hD⟩ := hv.form
    have hs1 := hb1.size
    clear hv h
    go_wp2_with fail
    refine (c_iBusyOk L O D B dd d _ hD hO (by omega) (by omega)).mono ?_
    rintro e w2 ⟨rfl, hb2⟩
    have k2 := hb1.trans (hb2.mono hs1)
    have hs2 := k2.size
    have hD2 := (hD.below hb2).more hb2.size
    have hO2 := (hO.below hb2).more hb2.size
    clear hb1 hb2 hD hO
    go_wp2_with fail
    refine (c_sBusyOk L O D B dd d _ hD2 hO2 (by omega) (by omega)).mono ?_
    rintro e w3 ⟨rfl, hb3⟩
    have k3 := k2.trans (hb3.mono hs2)
    have hs3 := k3.size
    have hD3 := (hD2.below hb3).more hb3.size
    have hO3 := (hO2.below hb3).more hb3.size
    have hne : (busyOk L O != busyOk L O) = false := by simp
    clear k2 hb3 hD2 hO2
    go_wp2_with fail
    have K3 := Lib.hid k3
    go_loopw [6] (fun i wr => ∃ k : Nat, k ≤ 4 ∧ i = .int .i64 k ∧ Below w3.heap.size w3 wr) (fun i _ => 4 - (intOf i).toNat)
    case atStart => exact ⟨0, by omega, rfl, Below.refl _ _⟩
    case round =>
      obtain ⟨k, hk4, rfl, hbr⟩ := hrel
      have kr := K3.out.trans (hbr.mono hs3)
      have hsr := kr.size
      have hDr := (hD3.below hbr).more hbr.size
      have hOr := (hO3.below hbr).more hbr.size
      by_cases hlt : k < 4
      · have hlt' : (k : Int) < 4 := by omega
        go_wp2_with fail
        refine (c_iCustomersOk L D dd wr hDr (by omega)).mono ?_
        rintro e w5 ⟨rfl, hb5⟩
        have k5 := kr.trans (hb5.mono hsr)
        have hs5 := k5.size
        have hD5 := (hDr.below hb5).more hb5.size
        have hO5 := (hOr.below hb5).more hb5.size
        have hb35 := hbr.trans (hb5.mono hbr.size)
        clear hb5 hDr hOr hbr kr hsr
        cases hok : cOk L with
        | true =>
          have HR := Lib.hid (orderR_busy hok hlt)
          have HL := orderR_len L k
          clear hok
          go_wp2_with fail
          refine (c_iOrderBy L D dd _ w5 hD5 (by omega) (by omega)).mono ?_
          rintro e w6 ⟨v6, rfl, o6, hb6⟩
          obtain ⟨E6, e6, rfl, -, -, hI6⟩ := o6.form
          have hD6 := (hD5.below hb6).more hb6.size
          have k6 := k5.trans (hb6.mono hs5)
          have hs6 := k6.size
          have hb36 := hb35.trans (hb6.mono hb35.size)
          clear o6 hb6 hD5 k5 hb35
          go_wp2_with fail
          refine (c_iBusyOk L (orderR L k) D E6 dd e6 _ hD6 hI6 (by omega) (by omega)).mono ?_
          rintro e w7 ⟨rfl, hb7⟩
          rw [HR.out]
          have hb37 := hb36.trans (hb7.mono hb36.size)
          clear hb7 hD6 hI6 k6 hb36
          go_wp2_with fail
          go_roundw
          case rel => exact ⟨k + 1, by omega, by go_num, hb37⟩
          case measure => simp [intOf]; omega
        | false =>
          have kW := k5
          have hOW := hO5
          have hDW := hD5
          clear k5 hO5 hb35 hne
          cases hk : busyOk L O with
          | true =>
            obtain ⟨hko, hkl⟩ := busyOk_parts hk
            have HKO := Lib.hid hko
            have HKL := Lib.hid hkl
            have dl : ((O.length : Int) == lastLeave L) = true := beq_iff_eq.2 hkl
            have dg : decide (lastLeave L ≤ (O.length : Int)) = true := decide_eq_true (by omega)
            clear hko hkl
            go_wp2_with fail
            refine (c_iLastLeave L D dd _ hDW (by omega)).mono ?_
            rintro e w7 ⟨rfl, hb7⟩
            have k7 := kW.trans (hb7.mono kW.size)
            have hD7 := (hDW.below hb7).more hb7.size
            have hO7 := (hOW.below hb7).more hb7.size
            clear hb7 hDW hOW kW
            go_wp2_with fail
            refine (c_iOrderOk L O D B dd d _ hD7 hO7 (by omega) (by omega)).mono ?_
            rintro e w8 ⟨rfl, hb8⟩
            rw [HKO.out]
            have k8 := k7.trans (hb8.mono k7.size)
            have hD8 := (hD7.below hb8).more hb8.size
            clear hb8 hD7 hO7 k7
            go_wp2_with fail
            refine (c_iLastLeave L D dd _ hD8 (by omega)).mono ?_
            rintro e w9 ⟨rfl, hb9⟩
            have k9 := k8.trans (hb9.mono k8.size)
            clear hb9 hD8 k8
            go_wp2_with fail
            refine (c_alive _).mono ?_
            rintro e w10 ⟨rfl, hb10⟩
            go_wp2_with fail
            go_ret
            exact ⟨rfl, k9.trans (hb10.mono k9.size)⟩
          | false =>
            cases hko : ordOk L O with
            | true =>
              have hkl := ordOk_late hko
              have HKO := Lib.hid hko
              have dg : decide (lastLeave L ≤ (O.length : Int)) = true := decide_eq_true (by omega)
              clear hko hkl
              go_wp2_with fail
              refine (c_iOrderOk L O D B dd d _ hDW hOW (by omega) (by omega)).mono ?_
              rintro e w8 ⟨rfl, hb8⟩
              rw [HKO.out]
              have k8 := kW.trans (hb8.mono kW.size)
              have hD8 := (hDW.below hb8).more hb8.size
              clear hb8 hDW hOW kW
              go_wp2_with fail
              refine (c_iLastLeave L D dd _ hD8 (by omega)).mono ?_
              rintro e w9 ⟨rfl, hb9⟩
              have k9 := k8.trans (hb9.mono k8.size)
              clear hb9 hD8 k8
              go_wp2_with fail
              refine (c_alive _).mono ?_
              rintro e w10 ⟨rfl, hb10⟩
              go_wp2_with fail
              go_ret
              exact ⟨rfl, k9.trans (hb10.mono k9.size)⟩
            | false =>
              have HKO := Lib.hid hko
              clear hko
              go_wp2_with fail
              refine (c_iOrderOk L O D B dd d _ hDW hOW (by omega) (by omega)).mono ?_
              rintro e w8 ⟨rfl, hb8⟩
              rw [HKO.out]
              have k8 := kW.trans (hb8.mono kW.size)
              clear hb8 hDW hOW kW
              go_wp2_with fail
              refine (c_alive _).mono ?_
              rintro e w10 ⟨rfl, hb10⟩
              go_wp2_with fail
              go_ret
              exact ⟨rfl, k8.trans (hb10.mono k8.size)⟩
      · have hlt' : ¬ ((k : Int) < 4) := by omega
        have kW := kr
        have hOW := hOr
        have hDW := hDr
        clear kr hOr hbr hne
        cases hk : busyOk L O with
        | true =>
          obtain ⟨hko, hkl⟩ := busyOk_parts hk
          have HKO := Lib.hid hko
          have HKL := Lib.hid hkl
          have dl : ((O.length : Int) == lastLeave L) = true := beq_iff_eq.2 hkl
          have dg : decide (lastLeave L ≤ (O.length : Int)) = true := decide_eq_true (by omega)
          clear hko hkl
          go_wp2_with fail
          refine (c_iLastLeave L D dd _ hDW (by omega)).mono ?_
          rintro e w7 ⟨rfl, hb7⟩
          have k7 := kW.trans (hb7.mono kW.size)
          have hD7 := (hDW.below hb7).more hb7.size
          have hO7 := (hOW.below hb7).more hb7.size
          clear hb7 hDW hOW kW
          go_wp2_with fail
          refine (c_iOrderOk L O D B dd d _ hD7 hO7 (by omega) (by omega)).mono ?_
          rintro e w8 ⟨rfl, hb8⟩
          rw [HKO.out]
          have k8 := k7.trans (hb8.mono k7.size)
          have hD8 := (hD7.below hb8).more hb8.size
          clear hb8 hD7 hO7 k7
          go_wp2_with fail
          refine (c_iLastLeave L D dd _ hD8 (by omega)).mono ?_
          rintro e w9 ⟨rfl, hb9⟩
          have k9 := k8.trans (hb9.mono k8.size)
          clear hb9 hD8 k8
          go_wp2_with fail
          refine (c_alive _).mono ?_
          rintro e w10 ⟨rfl, hb10⟩
          go_wp2_with fail
          go_ret
          exact ⟨rfl, k9.trans (hb10.mono k9.size)⟩
        | false =>
          cases hko : ordOk L O with
          | true =>
            have hkl := ordOk_late hko
            have HKO := Lib.hid hko
            have dg : decide (lastLeave L ≤ (O.length : Int)) = true := decide_eq_true (by omega)
            clear hko hkl
            go_wp2_with fail
            refine (c_iOrderOk L O D B dd d _ hDW hOW (by omega) (by omega)).mono ?_
            rintro e w8 ⟨rfl, hb8⟩
            rw [HKO.out]
            have k8 := kW.trans (hb8.mono kW.size)
            have hD8 := (hDW.below hb8).more hb8.size
            clear hb8 hDW hOW kW
            go_wp2_with fail
            refine (c_iLastLeave L D dd _ hD8 (by omega)).mono ?_
            rintro e w9 ⟨rfl, hb9⟩
            have k9 := k8.trans (hb9.mono k8.size)
            clear hb9 hD8 k8
            go_wp2_with fail
            refine (c_alive _).mono ?_
            rintro e w10 ⟨rfl, hb10⟩
            go_wp2_with fail
            go_ret
            exact ⟨rfl, k9.trans (hb10.mono k9.size)⟩
          | false =>
            have HKO := Lib.hid hko
            clear hko
            go_wp2_with fail
            refine (c_iOrderOk L O D B dd d _ hDW hOW (by omega) (by omega)).mono ?_
            rintro e w8 ⟨rfl, hb8⟩
            rw [HKO.out]
            have k8 := kW.trans (hb8.mono kW.size)
            clear hb8 hDW hOW kW
            go_wp2_with fail
            refine (c_alive _).mono ?_
            rintro e w10 ⟨rfl, hb10⟩
            go_wp2_with fail
            go_ret
            exact ⟨rfl, k8.trans (hb10.mono k8.size)⟩
  · go_enter Try.func4, Try.ntmps4
    go_wp2_with fail
    go_ret
    exact ⟨rfl, Below.refl _ _⟩

end Go.Proofs.Ytndkeaikafmhcaa


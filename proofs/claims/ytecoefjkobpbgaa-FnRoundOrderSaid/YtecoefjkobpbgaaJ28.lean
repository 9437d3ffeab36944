/- walks of the laws of chapter 11, second part: FnRoundOrder -/
import Derived.Test.YtecoefjkobpbgaaKT
import Derived.Test.YtecoefjkobpbgaaI10
import Derived.Test.YtecoefjkobpbgaaH
import Derived.Test.YtecoefjkobpbgaaS2
import Derived.Test.YtecoefjkobpbgaaU4
namespace Go.Proofs.Ytecoefjkobpbgaa
set_option linter.unusedVariables false
open Go.RowKit
attribute [local go_sem ↓] Go.wp_at_zero Go.wp_at_succ

set_option maxRecDepth 8000 in
set_option maxHeartbeats 8000000 in
theorem w_FnRoundOrder (A : Option Addr) (n c : Nat) (w : World) (h : Bs w w.heap.size A n) (hc : n ≤ c) :
    Calls Try.prog 3 #[.slice A n c] w fun e w' => e = .returned (.bool true) ∧ Below w.heap.size w w' := by
  by_cases hn : n ≤ 1048576
  · go_enter Try.func3, Try.ntmps3
    have k0 := Below.refl w.heap.size w
    have hs0 := k0.size
    go_wp2_with fail
    refine (c_DrawRoundOrder A n c _ h hn hc).mono ?_
    rintro e w1 ⟨L, v, rfl, hv, hl, -, hb1⟩
    obtain ⟨D, dd, rfl, hd1, hd2, hD1⟩ := hv.form
    clear hv h
    have k1 := k0.trans (hb1.mono hs0)
    have hs1 := k1.size
    clear k0 hb1
    have hrl := roundR_len L
    go_wp2_with fail
    refine (c_iRoundOrder L D dd _ hD1 hd1 (by omega)).mono ?_
    rintro e w2 ⟨v2, rfl, o2, hb2⟩
    obtain ⟨G, g, rfl, hg1, hg2, hG2⟩ := o2.form
    clear o2
    have k2 := k1.trans (hb2.mono hs1)
    have hs2 := k2.size
    have hD2 := (hD1.below hb2).more hb2.size
    clear k1 hb2 hD1
    go_wp2_with fail
    refine (c_sRoundOrder L D dd _ hD2 (by omega)).mono ?_
    rintro e w3 ⟨v3, rfl, o3, hb3⟩
    obtain ⟨S, s, rfl, hg4, hg5, hS3⟩ := o3.form
    clear o3
    have k3 := k2.trans (hb3.mono hs2)
    have hs3 := k3.size
    have hD3 := (hD2.below hb3).more hb3.size
    have hG3 := (hG2.below hb3).more hb3.size
    clear k2 hb3 hD2 hG2
    go_wp2_with fail
    refine (c_sameInts (roundR L) G S _ _ g s _ hG3 hS3 (by omega)).mono ?_
    rintro e w4 ⟨rfl, hb4⟩
    have k4 := k3.trans (hb4.mono hs3)
    have hs4 := k4.size
    have hD4 := (hD3.below hb4).more hb4.size
    have hG4 := (hG3.below hb4).more hb4.size
    have hS4 := (hS3.below hb4).more hb4.size
    clear k3 hb4 hD3 hG3 hS3
    clear hS4
    have KC := fun W hW => c_sCustomersOk L D dd W hW (by omega)
    cases hok : cOk L with
    | false =>
      rw [hok] at KC
      have HC := Lib.hid KC
      have hR0 : roundR L = [] := roundR_no hok
      rw [hR0]
      clear hok KC hR0
      go_wp2_with fail
      refine (HC.out _ hD4).mono ?_
      rintro e w5 ⟨rfl, hb5⟩
      have k5 := k4.trans (hb5.mono hs4)
      have hs5 := k5.size
      go_wp2_with fail
      refine (c_alive _).mono ?_
      rintro e w6 ⟨rfl, hb6⟩
      go_wp2_with fail
      go_ret
      exact ⟨rfl, k5.trans (hb6.mono hs5)⟩
    | true =>
      rw [hok] at KC
      have HC := Lib.hid KC
      obtain ⟨T, hT, hT2⟩ := lastLeave_nat hok
      have hR := roundR_yes hok hT
      have HA := Lib.hid (fun (a b : Nat) (hab : a ≠ b) (ha : a < L.length) (hb : b < L.length) => show 0 ≤ aheadV L (roundR L) a b ∧ aheadV L (roundR L) a b ≤ 1 from by rw [hR]; exact rr_ahead hok hT hab ha hb)
      have hbu : busyOk L (roundR L) = true := by rw [hR]; exact rr_busy hok hT
      have KB := fun W hW hB => c_iBusyOk L (roundR L) D G dd g W hW hB (by omega) (by omega)
      rw [hbu] at KB
      have HB := Lib.hid KB
      have HK := Lib.hid (fun (x y : Int) W hW hB => c_iAheadBy L (roundR L) D G dd g x y W hW hB hd1 hg1 (by omega) (by omega))
      clear hok KC KB hbu hR hT hT2
      go_wp2_with fail
      refine (HC.out _ hD4).mono ?_
      rintro e w5 ⟨rfl, hb5⟩
      have k5 := k4.trans (hb5.mono hs4)
      have hs5 := k5.size
      have hD5 := (hD4.below hb5).more hb5.size
      have hG5 := (hG4.below hb5).more hb5.size
      clear hb5 hD4 hG4 k4 HC
      go_wp2_with fail
      go_loopw [5] (fun i wr => ∃ a : Nat, a ≤ L.length ∧ i = .int .i64 (a : Int) ∧ Below w5.heap.size w5 wr) (fun i _ => L.length - (intOf i).toNat)
      case atStart => exact ⟨0, by omega, rfl, Below.refl _ _⟩
      case round =>
        obtain ⟨a, ha, rfl, hb⟩ := hrel
        by_cases hlt : a < L.length
        · have p0 : (a : Int) < (L.length : Int) := by omega
          go_wp2_with fail
          go_loopw [6] (fun j wr => ∃ b : Nat, b ≤ a ∧ j = .int .i64 (b : Int) ∧ Below w5.heap.size w5 wr) (fun j _ => a - (intOf j).toNat)
          case atStart => exact ⟨0, by omega, rfl, hb⟩
          case round =>
            clear hb
            obtain ⟨b, hba, rfl, hb⟩ := hrel
            by_cases hlt2 : b < a
            · have p1 : (b : Int) < (a : Int) := by omega
              have hv := HA.out a b (by omega) hlt (by omega)
              have KK := HK.out (a : Int) (b : Int) _ ((hD5.below hb).more hb.size) ((hG5.below hb).more hb.size)
              generalize aheadV L (roundR L) (a : Int) (b : Int) = av at *
              have d1 : decide (av < 0) = false := decide_eq_false (by omega)
              have d2 : decide (1 < av) = false := decide_eq_false (by omega)
              have HKK := Lib.hid KK
              clear hv KK
              go_wp2_with fail
              refine HKK.out.mono ?_
              rintro e w6 ⟨rfl, hb6⟩
              have hx := hb.trans (hb6.mono hb.size)
              clear HKK hb6
              go_wp2_with fail
              go_roundw
              case rel => exact ⟨b + 1, by omega, by go_num, hx⟩
              case measure => simp [intOf]; omega
            · have p1 : ¬ (b : Int) < (a : Int) := by omega
              go_wp2_with fail
              go_roundw
              case rel => exact ⟨a + 1, by omega, by go_num, hb⟩
              case measure => simp [intOf]; omega
        · have p0 : ¬ (a : Int) < (L.length : Int) := by omega
          go_wp2_with fail
          refine (HB.out _ ((hD5.below hb).more hb.size) ((hG5.below hb).more hb.size)).mono ?_
          rintro e w6 ⟨rfl, hb6⟩
          have hx := hb.trans (hb6.mono hb.size)
          go_wp2_with fail
          refine (c_alive _).mono ?_
          rintro e w7 ⟨rfl, hb7⟩
          go_wp2_with fail
          go_ret
          exact ⟨rfl, k5.trans ((hx.trans (hb7.mono hx.size)).mono hs5)⟩
  · go_enter Try.func3, Try.ntmps3
    go_wp2_with fail
    go_ret
    exact ⟨rfl, Below.refl _ _⟩

end Go.Proofs.Ytecoefjkobpbgaa


/- walks of the laws of chapter 10, third part: FnServedAt, FnWaitSum -/
import Derived.Test.YthoendonhkffkaaKS
import Derived.Test.YthoendonhkffkaaI9
import Derived.Test.YthoendonhkffkaaH
import Derived.Test.YthoendonhkffkaaS2
import Derived.Test.YthoendonhkffkaaV13
namespace Go.Proofs.Ythoendonhkffkaa
set_option linter.unusedVariables false
open Go.RowKit
attribute [local go_sem ↓] Go.wp_at_zero Go.wp_at_succ

set_option maxRecDepth 8000 in
set_option maxHeartbeats 8000000 in
theorem w_FnServedAt (A : Option Addr) (n c : Nat) (w : World) (h : Bs w w.heap.size A n) (hc : n ≤ c) :
    Calls Try.prog 5 #[.slice A n c] w fun e w' => e = .returned (.bool true) ∧ Below w.heap.size w w' := by
  by_cases hn : n ≤ 1048576
  · go_enter Try.func5, Try.ntmps5
    have k0 := Below.refl w.heap.size w
    have hs0 := k0.size
    go_wp2_with fail
    refine (c_DrawServedAt A n c _ h hn hc).mono ?_
    rintro e w1 ⟨L, v, t, u, rfl, hv, hl, ht, hu, hb1⟩
    obtain ⟨D, d, rfl, hd1, hd2, hD1⟩ := hv.form
    clear hv h
    have k1 := k0.trans (hb1.mono hs0)
    have hs1 := k1.size
    clear k0 hb1
    go_wp2_with fail
    refine (c_iServedAt L D d t u _ hD1 hd1 (by omega)).mono ?_
    rintro e w2 ⟨rfl, hb2⟩
    have k2 := k1.trans (hb2.mono hs1)
    have hs2 := k2.size
    have hD2 := (hD1.below hb2).more hb2.size
    clear k1 hb2 hD1
    go_wp2_with fail
    refine (c_sServedAt L D d t u _ hD2 (by omega)).mono ?_
    rintro e w3 ⟨rfl, hb3⟩
    have k3 := k2.trans (hb3.mono hs2)
    have hs3 := k3.size
    have hD3 := (hD2.below hb3).more hb3.size
    clear k2 hb3 hD2
    have hne : (servedAtV L t u != servedAtV L t u) = false := by simp
    by_cases hyes : besOk L t = true ∧ (0 ≤ u ∧ u ≤ 200)
    · obtain ⟨hbes, hu9⟩ := hyes
      have hV := servedAtV_yes hbes hu9
      obtain ⟨hok, hr⟩ := besOk_parts hbes
      obtain ⟨cn, rfl, h1, h4, hcn⟩ := counter_nat hr
      have hE : leaveBeV L (cn : Int) = leaveBeTo L cn L.length := by rw [leaveBeV_yes hbes, hcn]
      have hlen := cOk_len hok
      rw [hcn] at hV
      have hmin := served_min hok h1 hu9.1 L.length (Nat.le_refl _)
      have HTb := Lib.hid (fun k => thereC_bd L cn u k)
      have HB := Lib.hid (fun k (hk : k < L.length) => bgn_bd hok h1 hk)
      have HC := Lib.hid (fun k (hk : k < L.length) => cOk_bd hok hk)
      have hsb := servedN_bd L cn u L.length
      have d0 : decide (servedN L cn u L.length < 0) = false := decide_eq_false (by omega)
      have HMin := Lib.hid hmin
      have KL := fun W hW => c_sLeavesBeside L D d (cn : Int) W hW (by omega)
      rw [hE] at KL
      have HKL := Lib.hid KL
      rw [hV] at hne ⊢
      clear hbes hu9 hV hok hr hcn hE hmin KL hsb
      go_wp2_with fail
      refine (HKL.out _ hD3).mono ?_
      rintro e w4 ⟨v4, rfl, o4, hb4⟩
      obtain ⟨G, g, rfl, -, -, hG⟩ := o4.form
      rw [leaveBeTo_len]
      have k4 := k3.trans (hb4.mono hs3)
      have hs4 := k4.size
      have hD4 := (hD3.below hb4).more hb4.size
      clear o4 hb4 k3 hD3
      go_wp2_with fail
      go_loop [7, 9] (fun s i => ∃ k : Nat, k ≤ L.length ∧ i = .int .i64 (k : Int) ∧ s = .int .i64 (thereC L cn u k)) (fun _ i => L.length - (intOf i).toNat)
      case atStart => exact ⟨0, by omega, rfl, rfl⟩
      case round =>
        obtain ⟨k, hk, rfl, rfl⟩ := hrel
        by_cases hlt : k < L.length
        · obtain ⟨db, doff, rfl, hdb, hdc⟩ := hD4 (by omega)
          obtain ⟨gb, go, rfl, hgb, hgc⟩ := hG (by rw [leaveBeTo_len]; omega)
          have c1 := (hdc k hlt).1
          have c2 := hgc k (by rw [leaveBeTo_len]; omega)
          rw [leaveBeTo_Z hlt] at c2
          have tb := HTb.out k
          have p0 : (0 : Int) ≤ (k : Int) := by omega
          have p1 : (k : Int) < (L.length : Int) := by omega
          have hS : thereC L cn u (k + 1) = thereC L cn u k + (if X L k ≤ u ∧ u < bgn L cn k + Y L k then 1 else 0) := rfl
          generalize bgn L cn k + Y L k = m2 at *
          clear hdc hgc
          by_cases hx : X L k ≤ u
          · have d1 : decide (X L k ≤ u) = true := decide_eq_true hx
            by_cases hy : u < m2
            · have d2 : decide (u < m2) = true := decide_eq_true hy
              rw [if_pos ⟨hx, hy⟩] at hS
              have HS := Lib.hid hS
              clear hS hx hy
              go_wp2_with fail
              go_round
              case rel => exact ⟨k + 1, by omega, by go_num, by rw [HS.out]⟩
              case measure => simp [intOf]; omega
            · have d2 : decide (u < m2) = false := decide_eq_false hy
              rw [if_neg (fun c => hy c.2), Int.add_zero] at hS
              have HS := Lib.hid hS
              clear hS hx hy
              go_wp2_with fail
              go_round
              case rel => exact ⟨k + 1, by omega, by go_num, by rw [HS.out]⟩
              case measure => simp [intOf]; omega
          · have d1 : decide (X L k ≤ u) = false := decide_eq_false hx
            rw [if_neg (fun c => hx c.1), Int.add_zero] at hS
            have HS := Lib.hid hS
            clear hS hx
            go_wp2_with fail
            go_round
            case rel => exact ⟨k + 1, by omega, by go_num, by rw [HS.out]⟩
            case measure => simp [intOf]; omega
        · have hlf : ¬ ((k : Int) < (L.length : Int)) := by omega
          obtain rfl : k = L.length := by omega
          have hmin2 := HMin.out
          generalize thereC L cn u L.length = th at *
          generalize servedN L cn u L.length = sv at *
          by_cases hc9 : (cn : Int) < th
          · have dd : decide ((cn : Int) < th) = true := decide_eq_true hc9
            have he : (sv == (cn : Int)) = true := beq_iff_eq.2 (by omega)
            clear hmin2
            go_wp2_with fail
            refine (c_alive _).mono ?_
            rintro e w6 ⟨rfl, hb6⟩
            go_wp2_with fail
            go_ret
            exact ⟨rfl, k4.trans (hb6.mono hs4)⟩
          · have dd : decide ((cn : Int) < th) = false := decide_eq_false hc9
            have he : (sv == th) = true := beq_iff_eq.2 (by omega)
            clear hmin2
            go_wp2_with fail
            refine (c_alive _).mono ?_
            rintro e w6 ⟨rfl, hb6⟩
            go_wp2_with fail
            go_ret
            exact ⟨rfl, k4.trans (hb6.mono hs4)⟩
    · have hV := servedAtV_no hyes
      rw [hV] at hne ⊢
      clear hV hyes
      go_wp2_with fail
      refine (c_alive _).mono ?_
      rintro e w6 ⟨rfl, hb6⟩
      go_wp2_with fail
      go_ret
      exact ⟨rfl, k3.trans (hb6.mono hs3)⟩
  · go_enter Try.func5, Try.ntmps5
    go_wp2_with fail
    go_ret
    exact ⟨rfl, Below.refl _ _⟩

set_option maxRecDepth 8000 in
set_option maxHeartbeats 8000000 in
theorem w_FnWaitSum (A : Option Addr) (n c : Nat) (w : World) (h : Bs w w.heap.size A n) (hc : n ≤ c) :
    Calls Try.prog 6 #[.slice A n c] w fun e w' => e = .returned (.bool true) ∧ Below w.heap.size w w' := by
  by_cases hn : n ≤ 1048576
  · go_enter Try.func6, Try.ntmps6
    have k0 := Below.refl w.heap.size w
    have hs0 := k0.size
    go_wp2_with fail
    refine (c_DrawWaitSum A n c _ h hn hc).mono ?_
    rintro e w1 ⟨L, v, t, rfl, hv, hl, ht, hb1⟩
    obtain ⟨D, d, rfl, hd1, hd2, hD1⟩ := hv.form
    clear hv h
    have k1 := k0.trans (hb1.mono hs0)
    have hs1 := k1.size
    clear k0 hb1
    go_wp2_with fail
    refine (c_iWaitSum L D d t _ hD1 hd1 (by omega)).mono ?_
    rintro e w2 ⟨rfl, hb2⟩
    have k2 := k1.trans (hb2.mono hs1)
    have hs2 := k2.size
    have hD2 := (hD1.below hb2).more hb2.size
    clear k1 hb2 hD1
    go_wp2_with fail
    refine (c_sWaitSum L D d t _ hD2 (by omega)).mono ?_
    rintro e w3 ⟨rfl, hb3⟩
    have k3 := k2.trans (hb3.mono hs2)
    have hs3 := k3.size
    have hD3 := (hD2.below hb3).more hb3.size
    clear k2 hb3 hD2
    have hne : (waitSumV L t != waitSumV L t) = false := by simp
    cases hbes : besOk L t with
    | true =>
      have hV := waitSumV_yes hbes
      obtain ⟨hok, hr⟩ := besOk_parts hbes
      obtain ⟨cn, rfl, h1, h4, hcn⟩ := counter_nat hr
      rw [hcn] at hV
      have hlen := cOk_len hok
      have hb1s : besOk L 1 = true := by simp [besOk, hok]
      have hE1 : waitSumV L 1 = waitSumTo L L.length := by rw [waitSumV_yes hb1s]; exact waitS_one hok _ (Nat.le_refl _)
      have HW := Lib.hid (waits_yes hok)
      have HWb := Lib.hid (fun k (hk : k < L.length) => waitAt_bd hok k hk)
      have HSb := Lib.hid (fun k (hk : k ≤ L.length) => show 0 ≤ waitSumTo L k ∧ waitSumTo L k ≤ 200 * k from by
        have := waitS_bd hok (Nat.le_refl 1) k hk
        rwa [waitS_one hok k hk] at this)
      have hwb := waitS_bd hok h1 L.length (Nat.le_refl _)
      have d0 : decide (waitS L cn L.length < 0) = false := decide_eq_false (by omega)
      have HMany := Lib.hid (fun (hle : ¬ (cn : Int) < (L.length : Int)) => waitS_many hok (c := cn) (by omega) L.length (Nat.le_refl _))
      obtain ⟨mo, hmo, hmo2⟩ : ∃ mo, waitSumV L ((cn : Int) + 1) = mo ∧ (mo < 0 ∨ (0 ≤ mo ∧ mo ≤ waitS L cn L.length)) := by
        cases hx : besOk L ((cn : Int) + 1) with
        | true =>
          have := waitS_dom (L := L) (c := cn) (d := cn + 1) h1 (by omega) L.length (Nat.le_refl _)
          have := waitS_bd hok (c := cn + 1) (by omega) L.length (Nat.le_refl _)
          exact ⟨_, waitSumV_yes hx, .inr ⟨by rw [show ((cn : Int) + 1).toNat = cn + 1 by omega]; omega, by rw [show ((cn : Int) + 1).toNat = cn + 1 by omega]; omega⟩⟩
        | false => exact ⟨-1, waitSumV_no hx, .inl (by omega)⟩
      have q0 : IntKind.i64.wrap ((cn : Int) + 1) = (cn : Int) + 1 := IntWalk.i64_in _ (by omega)
      have KM := fun W hW => c_iWaitSum L D d ((cn : Int) + 1) W hW hd1 (by omega)
      rw [hmo] at KM
      have HKM := Lib.hid KM
      have KO := fun W hW => c_iWaitSum L D d 1 W hW hd1 (by omega)
      rw [hE1] at KO
      have HKO := Lib.hid KO
      have HKW := Lib.hid (fun W hW => c_sWaitsOf L D d W hW (by omega))
      rw [hV] at hne ⊢
      clear hbes hok hr hcn hV hb1s hE1 hmo KM KO
      go_wp2_with fail
      refine (HKM.out _ hD3).mono ?_
      rintro e w4 ⟨rfl, hb4⟩
      have k4 := k3.trans (hb4.mono hs3)
      have hs4 := k4.size
      have hD4 := (hD3.below hb4).more hb4.size
      clear hb4 k3 hD3
      go_wp2_with fail
      refine (HKW.out _ hD4).mono ?_
      rintro e w5 ⟨v5, rfl, o5, hb5⟩
      rw [HW.out] at o5
      obtain ⟨G, g, rfl, -, -, hG⟩ := o5.form
      rw [waitsTo_len]
      have k5 := k4.trans (hb5.mono hs4)
      have hs5 := k5.size
      have hD5 := (hD4.below hb5).more hb5.size
      clear o5 hb5 k4 hD4 q0
      go_wp2_with fail
      go_loop [7, 9] (fun s i => ∃ k : Nat, k ≤ L.length ∧ i = .int .i64 (k : Int) ∧ s = .int .i64 (waitSumTo L k)) (fun _ i => L.length - (intOf i).toNat)
      case atStart => exact ⟨0, by omega, rfl, rfl⟩
      case round =>
        obtain ⟨k, hk, rfl, rfl⟩ := hrel
        by_cases hlt : k < L.length
        · obtain ⟨gb, go, rfl, hgb, hgc⟩ := hG (by rw [waitsTo_len]; omega)
          have c2 := hgc k (by rw [waitsTo_len]; omega)
          rw [Z_waitsTo hlt] at c2
          have tb := HSb.out k hk
          have wb := HWb.out k hlt
          have p0 : (0 : Int) ≤ (k : Int) := by omega
          have p1 : (k : Int) < (L.length : Int) := by omega
          have HS := Lib.hid (show waitSumTo L (k + 1) = waitSumTo L k + waitAt L k from rfl)
          generalize waitSumTo L k = s9 at *
          clear hgc
          go_wp2_with fail
          go_round
          case rel => exact ⟨k + 1, by omega, by go_num, by rw [HS.out]⟩
          case measure => simp [intOf]; omega
        · have hlf : ¬ ((k : Int) < (L.length : Int)) := by omega
          obtain rfl : k = L.length := by omega
          have hes : (waitSumTo L L.length == waitSumTo L L.length) = true := by simp
          have HMa := Lib.hid (fun (hle : ¬ (cn : Int) < (L.length : Int)) => show (waitS L cn L.length == 0) = true from beq_iff_eq.2 (HMany.out (by omega)))
          generalize waitSumTo L L.length = s9 at *
          generalize waitS L cn L.length = sv at *
          clear hwb
          rcases hmo2 with hm | ⟨hm, hm2⟩
          · have dm : decide (mo < 0) = true := decide_eq_true hm
            go_wp2_with fail
            refine (HKO.out _ hD5).mono ?_
            rintro e w6 ⟨rfl, hb6⟩
            have k6 := k5.trans (hb6.mono hs5)
            have hs6 := k6.size
            by_cases hc9 : (cn : Int) < (L.length : Int)
            · have dc : decide ((cn : Int) < (L.length : Int)) = true := decide_eq_true hc9
              go_wp2_with fail
              refine (c_alive _).mono ?_
              rintro e w7 ⟨rfl, hb7⟩
              go_wp2_with fail
              go_ret
              exact ⟨rfl, k6.trans (hb7.mono hs6)⟩
            · have dc : decide ((cn : Int) < (L.length : Int)) = false := decide_eq_false hc9
              have d0s := HMa.out (by omega)
              go_wp2_with fail
              refine (c_alive _).mono ?_
              rintro e w7 ⟨rfl, hb7⟩
              go_wp2_with fail
              go_ret
              exact ⟨rfl, k6.trans (hb7.mono hs6)⟩
          · have dm : decide (mo < 0) = false := decide_eq_false (by omega)
            have dm2 : decide (mo ≤ sv) = true := decide_eq_true hm2
            go_wp2_with fail
            refine (HKO.out _ hD5).mono ?_
            rintro e w6 ⟨rfl, hb6⟩
            have k6 := k5.trans (hb6.mono hs5)
            have hs6 := k6.size
            by_cases hc9 : (cn : Int) < (L.length : Int)
            · have dc : decide ((cn : Int) < (L.length : Int)) = true := decide_eq_true hc9
              go_wp2_with fail
              refine (c_alive _).mono ?_
              rintro e w7 ⟨rfl, hb7⟩
              go_wp2_with fail
              go_ret
              exact ⟨rfl, k6.trans (hb7.mono hs6)⟩
            · have dc : decide ((cn : Int) < (L.length : Int)) = false := decide_eq_false hc9
              have d0s := HMa.out (by omega)
              go_wp2_with fail
              refine (c_alive _).mono ?_
              rintro e w7 ⟨rfl, hb7⟩
              go_wp2_with fail
              go_ret
              exact ⟨rfl, k6.trans (hb7.mono hs6)⟩
    | false =>
      have hV := waitSumV_no hbes
      rw [hV] at hne ⊢
      clear hV hbes
      go_wp2_with fail
      refine (c_alive _).mono ?_
      rintro e w6 ⟨rfl, hb6⟩
      go_wp2_with fail
      go_ret
      exact ⟨rfl, k3.trans (hb6.mono hs3)⟩
  · go_enter Try.func6, Try.ntmps6
    go_wp2_with fail
    go_ret
    exact ⟨rfl, Below.refl _ _⟩

end Go.Proofs.Ythoendonhkffkaa


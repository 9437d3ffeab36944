/- walks of the laws of chapter 10, first part: FnBeginsOf -/
import Derived.Test.YthoendonhkffkaaKS
import Derived.Test.YthoendonhkffkaaI9
import Derived.Test.YthoendonhkffkaaH
import Derived.Test.YthoendonhkffkaaS2
import Derived.Test.YthoendonhkffkaaO
namespace Go.Proofs.Ythoendonhkffkaa
set_option linter.unusedVariables false
open Go.RowKit
attribute [local go_sem ↓] Go.wp_at_zero Go.wp_at_succ

set_option maxRecDepth 8000 in
set_option maxHeartbeats 8000000 in
theorem w_FnBeginsOf (A : Option Addr) (n c : Nat) (w : World) (h : Bs w w.heap.size A n) (hc : n ≤ c) :
    Calls Try.prog 3 #[.slice A n c] w fun e w' => e = .returned (.bool true) ∧ Below w.heap.size w w' := by
  by_cases hn : n ≤ 1048576
  · go_enter Try.func3, Try.ntmps3
    have k0 := Below.refl w.heap.size w
    have hs0 := k0.size
    go_wp2_with fail
    refine (c_DrawBeginsOf A n c _ h hn hc).mono ?_
    rintro e w1 ⟨L, v, t, rfl, hv, hl, ht, hb1⟩
    obtain ⟨D, d, rfl, hd1, hd2, hD1⟩ := hv.form
    clear hv h
    have k1 := k0.trans (hb1.mono hs0)
    have hs1 := k1.size
    clear k0 hb1
    have hbl := beginsV_len L t
    go_wp2_with fail
    refine (c_iBeginsOf L D d t _ hD1 hd1 (by omega)).mono ?_
    rintro e w2 ⟨v2, rfl, o2, hb2⟩
    obtain ⟨G, g, rfl, hg1, hg2, hG2⟩ := o2.form
    clear o2
    have k2 := k1.trans (hb2.mono hs1)
    have hs2 := k2.size
    have hD2 := (hD1.below hb2).more hb2.size
    clear k1 hb2 hD1
    go_wp2_with fail
    refine (c_sBeginsOf L D d t _ hD2 (by omega)).mono ?_
    rintro e w3 ⟨v3, rfl, o3, hb3⟩
    obtain ⟨S, s, rfl, hg4, hg5, hS3⟩ := o3.form
    clear o3
    have k3 := k2.trans (hb3.mono hs2)
    have hs3 := k3.size
    have hD3 := (hD2.below hb3).more hb3.size
    have hG3 := (hG2.below hb3).more hb3.size
    clear k2 hb3 hD2 hG2
    go_wp2_with fail
    refine (c_sameInts (beginsV L t) G S _ _ g s _ hG3 hS3 (by omega)).mono ?_
    rintro e w4 ⟨rfl, hb4⟩
    have k4 := k3.trans (hb4.mono hs3)
    have hs4 := k4.size
    have hD4 := (hD3.below hb4).more hb4.size
    have hG4 := (hG3.below hb4).more hb4.size
    have hS4 := (hS3.below hb4).more hb4.size
    clear k3 hb4 hD3 hG3 hS3
    clear hS4
    by_cases h0 : (beginsV L t).length = 0
    · have hz : (((beginsV L t).length : Int) == 0) = true := beq_iff_eq.2 (by omega)
      have HH0 := Lib.hid h0
      clear h0
      go_wp2_with fail
      refine (c_alive _).mono ?_
      rintro e w5 ⟨rfl, hb5⟩
      go_wp2_with fail
      go_ret
      exact ⟨rfl, k4.trans (hb5.mono hs4)⟩
    · have hbes : besOk L t = true := by
        cases hx : besOk L t with
        | true => rfl
        | false => rw [beginsV_no hx] at h0; simp at h0
      obtain ⟨hok, hr⟩ := besOk_parts hbes
      obtain ⟨cn, rfl, h1, h4, hcn⟩ := counter_nat hr
      have hE : beginsV L (cn : Int) = beginsTo L cn L.length := by rw [beginsV_yes hbes, hcn]
      rw [hE, beginsTo_len] at h0
      have hl1 : 1 ≤ L.length := by omega
      have hlen := cOk_len hok
      have hb1s : besOk L 1 = true := by simp [besOk, hok]
      have hE1 : beginsV L 1 = beginsTo L 1 L.length := by rw [beginsV_yes hb1s]; rfl
      have HW := Lib.hid (waits_yes hok)
      have HX := Lib.hid (fun k => bgn_come L cn k)
      have HU := Lib.hid (fun k (hk : k + 1 < L.length) => bgn_up hok h1 hk)
      have HO := Lib.hid (fun k (hk : k < L.length) => bgn_one hok k hk)
      have HB := Lib.hid (fun k (hk : k < L.length) => bgn_bd hok h1 hk)
      have HC := Lib.hid (fun k (hk : k < L.length) => cOk_bd hok hk)
      have HWb := Lib.hid (fun k (hk : k < L.length) => waitAt_bd hok k hk)
      have HM := Lib.hid (fun k (hk : k < L.length) => (free_dom (L := L) (M := L) (c := cn) (d := cn + 1) (n := L.length) h1 (by omega) (fun _ _ => rfl) (fun _ _ => Int.le_refl _) k (by omega)).2 hk)
      have HS0 := Lib.hid (fun (hle : ¬ (cn : Int) < (L.length : Int)) => show waitSumV L (cn : Int) = 0 by rw [waitSumV_yes hbes, hcn, waitS_many hok (by omega) _ (Nat.le_refl _)])
      have q0 : IntKind.i64.wrap ((cn : Int) + 1) = (cn : Int) + 1 := IntWalk.i64_in _ (by omega)
      obtain ⟨mn, hmore, hmn⟩ : ∃ mn : Nat, (beginsV L ((cn : Int) + 1)).length = mn ∧ ((mn = 0 ∧ mn ≠ L.length) ∨ (mn = L.length ∧ beginsV L ((cn : Int) + 1) = beginsTo L (cn + 1) L.length)) := by
        cases hx : besOk L ((cn : Int) + 1) with
        | true => exact ⟨L.length, by rw [beginsV_yes hx, beginsTo_len], .inr ⟨rfl, by rw [beginsV_yes hx]; rfl⟩⟩
        | false => exact ⟨0, by rw [beginsV_no hx]; rfl, .inl ⟨rfl, by omega⟩⟩
      have KM := fun W hW => c_iBeginsOf L D d ((cn : Int) + 1) W hW hd1 (by omega)
      have HKM := Lib.hid KM
      have KO := fun W hW => c_iBeginsOf L D d 1 W hW hd1 (by omega)
      rw [hE1] at KO
      have HKO := Lib.hid KO
      have HKW := Lib.hid (fun W hW => c_sWaitsOf L D d W hW (by omega))
      rw [hE] at hG4 hg1
      rw [hE, beginsTo_len]
      rw [beginsTo_len] at hg1
      have hz : ((L.length : Int) == 0) = false := beq_eq_false_iff_ne.2 (by omega)
      have HMM := Lib.hid hmn
      have HML := Lib.hid hmore
      clear h0 hbes hok hr hcn hE hE1 hb1s KM KO hbl hg4 hmore hmn
      go_wp2_with fail
      refine (HKM.out _ hD4).mono ?_
      rintro e w5 ⟨v5, rfl, o5, hb5⟩
      obtain ⟨M, m, rfl, -, -, hM5⟩ := o5.form
      rw [HML.out]
      clear o5
      have k5 := k4.trans (hb5.mono hs4)
      have hs5 := k5.size
      have hD5 := (hD4.below hb5).more hb5.size
      have hG5 := (hG4.below hb5).more hb5.size
      clear k4 hb5 hD4 hG4
      go_wp2_with fail
      refine (HKO.out _ hD5).mono ?_
      rintro e w6 ⟨v6, rfl, o6, hb6⟩
      obtain ⟨N, m6, rfl, -, -, hN6⟩ := o6.form
      rw [beginsTo_len]
      clear o6
      have k6 := k5.trans (hb6.mono hs5)
      have hs6 := k6.size
      have hD6 := (hD5.below hb6).more hb6.size
      have hG6 := (hG5.below hb6).more hb6.size
      have hM6 := (hM5.below hb6).more hb6.size
      clear k5 hb6 hD5 hG5 hM5
      go_wp2_with fail
      refine (HKW.out _ hD6).mono ?_
      rintro e w7 ⟨v7, rfl, o7, hb7⟩
      rw [HW.out] at o7
      obtain ⟨V, m7, rfl, -, -, hV7⟩ := o7.form
      rw [waitsTo_len]
      clear o7
      have k7 := k6.trans (hb7.mono hs6)
      have hs7 := k7.size
      have hD7 := (hD6.below hb7).more hb7.size
      have hG7 := (hG6.below hb7).more hb7.size
      have hM7 := (hM6.below hb7).more hb7.size
      have hN7 := (hN6.below hb7).more hb7.size
      clear k6 hb7 hD6 hG6 hM6 hN6
      have hne : ((L.length : Int) != (L.length : Int)) = false := by simp
      clear q0 hz
      go_wp2_with fail
      go_loopw [9] (fun i wr => ∃ k n : Nat, k ≤ L.length ∧ i = .int .i64 (k : Int) ∧ wr = w7.drewN n) (fun i _ => L.length - (intOf i).toNat)
      case atStart => exact ⟨0, 0, by omega, rfl, rfl⟩
      case round =>
        obtain ⟨k, n9, hk, rfl, rfl⟩ := hrel
        by_cases hlt : k < L.length
        · obtain ⟨db, doff, rfl, hdb, hdc⟩ := hD7 (by omega)
          obtain ⟨gb, go, rfl, hgb, hgc⟩ := hG7 (by rw [beginsTo_len]; omega)
          obtain ⟨nb, no, rfl, hnb, hnc⟩ := hN7 (by rw [beginsTo_len]; omega)
          obtain ⟨vb, vo, rfl, hvb, hvc⟩ := hV7 (by rw [waitsTo_len]; omega)
          have c1 := (hdc k hlt).1
          have c2 := hgc k (by rw [beginsTo_len]; omega)
          have c4 := hnc k (by rw [beginsTo_len]; omega)
          have c5 := hvc k (by rw [waitsTo_len]; omega)
          rw [beginsTo_Z hlt] at c2 c4
          rw [HO.out k hlt] at c4
          rw [Z_waitsTo hlt] at c5
          have b1 := HB.out k hlt
          have b2 := HC.out k hlt
          have b3 := HWb.out k hlt
          have x1 := HX.out k
          have d1 : decide (bgn L cn k < X L k) = false := decide_eq_false (by omega)
          have q1 : IntKind.i64.wrap (X L k + waitAt L k) = X L k + waitAt L k := IntWalk.i64_in _ (by omega)
          have d2 : (X L k + waitAt L k != X L k + waitAt L k) = false := by simp
          have p0 : (0 : Int) ≤ (k : Int) := by omega
          have p1 : (k : Int) < (L.length : Int) := by omega
          have HMk := Lib.hid (HM.out k hlt)
          by_cases hk0 : 0 < k
          · have c3 := hgc (k - 1) (by rw [beginsTo_len]; omega)
            rw [beginsTo_Z (by omega)] at c3
            have u1 := HU.out (k - 1) (by omega)
            rw [show k - 1 + 1 = k by omega] at u1
            have p2 : (0 : Int) < (k : Int) := by omega
            have d9 : decide ((0 : Int) < (k : Int)) = true := decide_eq_true p2
            have p3 : (0 : Int) ≤ (k : Int) - 1 := by omega
            have p4 : (k : Int) - 1 < (L.length : Int) := by omega
            have p5 : ((k : Int) - 1).toNat = k - 1 := by omega
            have p6 : (1 : Int) ≤ (k : Int) := by omega
            have q2 : IntKind.i64.wrap ((k : Int) - 1) = (k : Int) - 1 := IntWalk.i64_in _ (by omega)
            have d3 : decide (bgn L cn k < bgn L cn (k - 1)) = false := decide_eq_false (by omega)
            rcases HMM.out with ⟨e1, e2⟩ | ⟨e1, e2⟩
            · have d4 : ((mn : Int) == (L.length : Int)) = false := beq_eq_false_iff_ne.2 (by omega)
              clear e1 e2
              clear hgc hdc hnc hvc b1 b2 b3 x1
              go_wp2_with fail
              go_quiet (fail)
              go_wp2_with fail
              go_roundw
              case rel => exact ⟨k + 1, _, by omega, by go_num, rfl⟩
              case measure => simp [intOf]; omega
            · subst e1
              obtain ⟨mb, mo, rfl, hmb, hmc⟩ := hM7 (by rw [e2, beginsTo_len]; omega)
              have c6 := hmc k (by rw [e2, beginsTo_len]; omega)
              rw [e2, beginsTo_Z hlt] at c6
              have d4 : ((L.length : Int) == (L.length : Int)) = true := by simp
              have d5 : decide (bgn L cn k < bgn L (cn + 1) k) = false := decide_eq_false (by have := HMk.out; omega)
              clear hmc
              have HE2 := Lib.hid e2
              clear e2
              clear hgc hdc hnc hvc b1 b2 b3 x1
              go_wp2_with fail
              go_quiet (fail)
              go_wp2_with fail
              go_roundw
              case rel => exact ⟨k + 1, _, by omega, by go_num, rfl⟩
              case measure => simp [intOf]; omega
          · have p2 : ¬ (0 : Int) < (k : Int) := by omega
            have d9 : decide ((0 : Int) < (k : Int)) = false := decide_eq_false p2
            rcases HMM.out with ⟨e1, e2⟩ | ⟨e1, e2⟩
            · have d4 : ((mn : Int) == (L.length : Int)) = false := beq_eq_false_iff_ne.2 (by omega)
              clear e1 e2
              clear hgc hdc hnc hvc b1 b2 b3 x1
              go_wp2_with fail
              go_quiet (fail)
              go_wp2_with fail
              go_roundw
              case rel => exact ⟨k + 1, _, by omega, by go_num, rfl⟩
              case measure => simp [intOf]; omega
            · subst e1
              obtain ⟨mb, mo, rfl, hmb, hmc⟩ := hM7 (by rw [e2, beginsTo_len]; omega)
              have c6 := hmc k (by rw [e2, beginsTo_len]; omega)
              rw [e2, beginsTo_Z hlt] at c6
              have d4 : ((L.length : Int) == (L.length : Int)) = true := by simp
              have d5 : decide (bgn L cn k < bgn L (cn + 1) k) = false := decide_eq_false (by have := HMk.out; omega)
              clear hmc
              have HE2 := Lib.hid e2
              clear e2
              clear hgc hdc hnc hvc b1 b2 b3 x1
              go_wp2_with fail
              go_quiet (fail)
              go_wp2_with fail
              go_roundw
              case rel => exact ⟨k + 1, _, by omega, by go_num, rfl⟩
              case measure => simp [intOf]; omega
        · have hlf : ¬ ((k : Int) < (L.length : Int)) := by omega
          obtain rfl : k = L.length := by omega
          have kx : Below w.heap.size w (w7.drewN n9) := by (repeat (first | exact k7 | exact Below.refl _ _ | (with_reducible refine Below.drew ?_) | (with_reducible refine Below.drewN ?_ _) | (with_reducible refine Below.alloc ?_ ?_ _) | (with_reducible refine Below.setCell ?_ ?_ _) | (show _ ≤ _; focus (first | omega | (simp; done) | (simp; omega)))))
          have hDx : Cs (w7.drewN n9) (w7.drewN n9).heap.size D L := hD7
          have heq : ((L.length : Int) == (L.length : Int)) = true := by simp
          generalize w7.drewN n9 = w8 at *
          by_cases hm : (cn : Int) < (L.length : Int)
          · have dm : decide ((cn : Int) < (L.length : Int)) = true := decide_eq_true hm
            go_wp2_with fail
            go_ret
            exact ⟨rfl, kx⟩
          · have dm : decide ((cn : Int) < (L.length : Int)) = false := decide_eq_false hm
            have KS := c_iWaitSum L D d (cn : Int) w8 hDx hd1 (by omega)
            rw [HS0.out (by omega)] at KS
            have HKS := Lib.hid KS
            clear KS
            go_wp2_with fail
            refine HKS.out.mono ?_
            rintro e w9 ⟨rfl, hb9⟩
            go_wp2_with fail
            go_ret
            exact ⟨rfl, kx.trans (hb9.mono kx.size)⟩
  · go_enter Try.func3, Try.ntmps3
    go_wp2_with fail
    go_ret
    exact ⟨rfl, Below.refl _ _⟩

end Go.Proofs.Ythoendonhkffkaa


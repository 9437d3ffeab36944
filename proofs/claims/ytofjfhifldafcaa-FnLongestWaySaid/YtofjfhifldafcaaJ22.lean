/- walks of the laws of chapter 9, second part: FnLongestWay, FnBackOf -/
import Derived.Test.YtofjfhifldafcaaKR
import Derived.Test.YtofjfhifldafcaaI8
import Derived.Test.YtofjfhifldafcaaH
import Derived.Test.YtofjfhifldafcaaJ21
namespace Go.Proofs.Ytofjfhifldafcaa
set_option linter.unusedVariables false
open Go.RowKit
attribute [local go_sem ↓] Go.wp_at_zero Go.wp_at_succ

set_option maxHeartbeats 1000000 in
theorem c_sameBoth (L : List (Int × Int)) (A B : Option Addr) (BA BB c d : Nat) (w : World) (hA : Cs w BA A L) (hB : Cs w BB B L) (hx : L.length ≤ 140737488351232) :
    Calls Try.prog 30 #[.slice A L.length c, .slice B L.length d] w fun e w' => e = .returned (.bool true) ∧ Below w.heap.size w w' := by
  go_enter Try.func30, Try.ntmps30
  go_wp2_with fail
  go_loopw [5] (fun i wr => ∃ k n : Nat, k ≤ L.length ∧ i = .int .i64 k ∧ wr = w.drewN n) (fun i _ => L.length - (intOf i).toNat)
  case atStart => exact ⟨0, 0, Nat.zero_le _, rfl, rfl⟩
  case round =>
    obtain ⟨k, n, hk, rfl, rfl⟩ := hrel
    by_cases hlt : k < L.length
    · obtain ⟨b, off, rfl, hlb, hc⟩ := hA (by omega)
      obtain ⟨b2, off2, rfl, hlb2, hc2⟩ := hB (by omega)
      obtain ⟨c1, c3⟩ := hc k hlt
      obtain ⟨c2, c4⟩ := hc2 k hlt
      clear hc hc2
      go_wp2_with fail
      go_quiet (fail)
      go_wp2_with fail
      go_roundw
      case rel => exact ⟨k + 1, _, by omega, by go_num, rfl⟩
      case measure => simp [intOf]; omega
    · go_wp2_with fail
      go_ret
      exact ⟨rfl, by (repeat (first | exact rfl | exact Below.refl _ _ | (with_reducible refine Below.drew ?_) | (with_reducible refine Below.drewN ?_ _) | (with_reducible refine Below.alloc ?_ ?_ _) | (with_reducible refine Below.setCell ?_ ?_ _) | (show _ ≤ _; focus (first | omega | (simp; done) | (simp; omega)))))⟩

set_option maxHeartbeats 4000000 in
theorem w_FnLongestWay (A : Option Addr) (n c : Nat) (w : World) (h : Bs w w.heap.size A n) (hc : n ≤ c) :
    Calls Try.prog 5 #[.slice A n c] w fun e w' => e = .returned (.bool true) ∧ Below w.heap.size w w' := by
  by_cases hn : n ≤ 1048576
  · go_enter Try.func5, Try.ntmps5
    have k0 := Below.refl w.heap.size w
    have hs0 := k0.size
    go_wp2_with fail
    refine (c_DrawLongestWay A n c _ h hn hc).mono ?_
    rintro e w1 ⟨L, v, rfl, hv, hl, hb1⟩
    obtain ⟨D, d, rfl, hd1, hd2, hD1⟩ := hv.form
    clear hv h
    have k1 := k0.trans (hb1.mono hs0)
    have hs1 := k1.size
    clear k0 hb1
    go_wp2_with fail
    refine (c_iLongestWay L D d _ hD1 hd1 (by omega)).mono ?_
    rintro e w2 ⟨rfl, hb2⟩
    have k2 := k1.trans (hb2.mono hs1)
    have hs2 := k2.size
    have hD2 := (hD1.below hb2).more hb2.size
    clear k1 hb2 hD1
    go_wp2_with fail
    refine (c_sLongestWay L D d _ hD2 (by omega)).mono ?_
    rintro e w3 ⟨rfl, hb3⟩
    have k3 := k2.trans (hb3.mono hs2)
    have hs3 := k3.size
    have hD3 := (hD2.below hb3).more hb3.size
    clear k2 hb3 hD2
    have hne : (longV L != longV L) = false := by simp
    cases hok : bOk L with
    | true =>
      have hb9 := lw_bd hok
      have HFB := Lib.hid (pF_bd hok)
      have HSB := Lib.hid (fun m (hm : m ≤ L.length) => fS_bd hok 0 m hm)
      have HXY := Lib.hid (bOk_parts hok).1
      have hl1 := (bOk_parts hok).2
      have HBk := Lib.hid (bOk_back hok)
      have HLB := Lib.hid (long_back hok)
      have HV := Lib.hid (longV_yes hok)
      rw [← longV_yes hok] at hb9
      obtain ⟨b1, b2, b3, b4, b5⟩ := hb9
      have d0 : decide (longV L < 0) = false := decide_eq_false (by omega)
      have hblen : (backV L).length = L.length := by rw [backV_yes hok, backB_len]
      have HBL := Lib.hid hblen
      clear hok hblen
      go_wp2_with fail
      go_loopw [5, 6, 7] (fun f s i wr => ∃ k : Nat, k ≤ L.length ∧ i = .int .i64 (k : Int) ∧ f = .int .i64 (pF L k) ∧ s = .int .i64 (fS L 0 k) ∧ wr = w3) (fun _ _ i _ => L.length - (intOf i).toNat)
      case atStart => exact ⟨0, by omega, rfl, rfl, rfl, rfl⟩
      case round =>
        obtain ⟨k, hk, rfl, rfl, rfl, rfl⟩ := hrel
        by_cases hlt : k < L.length
        · obtain ⟨b, off, rfl, hlb, hcc⟩ := hD3 (by omega)
          have c1 := (hcc k hlt).1
          have c2 := (hcc k hlt).2
          have f1 := HFB.out k hk
          have f2 := HSB.out k hk
          have f3 := HXY.out k hlt
          have p0 : (0 : Int) ≤ (k : Int) := by omega
          have p1 : (k : Int) < (L.length : Int) := by omega
          have HF1 := Lib.hid (show pF L (k + 1) = pF L k + X L k from rfl)
          have HS1 := Lib.hid (show fS L 0 (k + 1) = fS L 0 k + Y L k by simp [fS])
          clear hcc
          generalize pF L k = f at *
          generalize fS L 0 k = s at *
          go_wp2_with fail
          go_roundw
          case rel => exact ⟨k + 1, by omega, by go_num, by rw [HF1.out], by rw [HS1.out], by first | rfl | trivial⟩
          case measure => simp [intOf]; omega
        · have hlf : ¬ ((k : Int) < (L.length : Int)) := by omega
          obtain rfl : k = L.length := by omega
          have HBa := Lib.hid (c_iBackOf L D d wr hD3 hd1 (by omega))
          have f1 := HFB.out L.length hk
          have f2 := HSB.out L.length hk
          have d1 : decide (pF L L.length < longV L) = true := decide_eq_true (by omega)
          have d2 : decide (fS L 0 L.length < longV L) = true := decide_eq_true (by omega)
          have q1 : IntKind.i64.wrap (pF L L.length + fS L 0 L.length) = pF L L.length + fS L 0 L.length := IntWalk.i64_in _ (by omega)
          have d3 : decide (longV L ≤ pF L L.length + fS L 0 L.length) = true := decide_eq_true (by omega)
          have de : (longV L == longV L) = true := by simp
          clear b1 b2 b3 b4 b5 f1 f2
          go_wp2_with fail
          refine HBa.out.mono ?_
          rintro e w4 ⟨v4, rfl, o4, hb4⟩
          obtain ⟨G, g, rfl, hg1, hg2, hG⟩ := o4.form
          have KL := c_iLongestWay (backV L) G g w4 hG hg1 (by rw [HBL.out]; omega)
          rw [HLB.out] at KL
          have HKL := Lib.hid KL
          clear KL o4 hG
          go_wp2_with fail
          refine HKL.out.mono ?_
          rintro e w5 ⟨rfl, hb5⟩
          have kx := k3.trans ((hb4.trans (hb5.mono hb4.size)).mono hs3)
          clear hb4 hb5
          go_wp2_with fail
          go_ret
          exact ⟨rfl, kx⟩
    | false =>
      have hV := longV_no hok
      rw [hV] at hne ⊢
      clear hok hV
      go_wp2_with fail
      refine (c_alive _).mono ?_
      rintro e w4 ⟨rfl, hb4⟩
      go_wp2_with fail
      go_ret
      exact ⟨rfl, k3.trans (hb4.mono hs3)⟩
  · go_enter Try.func5, Try.ntmps5
    go_wp2_with fail
    go_ret
    exact ⟨rfl, Below.refl _ _⟩

set_option maxHeartbeats 4000000 in
theorem w_FnBackOf (A : Option Addr) (n c : Nat) (w : World) (h : Bs w w.heap.size A n) (hc : n ≤ c) :
    Calls Try.prog 6 #[.slice A n c] w fun e w' => e = .returned (.bool true) ∧ Below w.heap.size w w' := by
  by_cases hn : n ≤ 1048576
  · go_enter Try.func6, Try.ntmps6
    have k0 := Below.refl w.heap.size w
    have hs0 := k0.size
    go_wp2_with fail
    refine (c_DrawBackOf A n c _ h hn hc).mono ?_
    rintro e w1 ⟨L, v, rfl, hv, hl, hb1⟩
    obtain ⟨D, d, rfl, hd1, hd2, hD1⟩ := hv.form
    clear hv h
    have k1 := k0.trans (hb1.mono hs0)
    have hs1 := k1.size
    clear k0 hb1
    have hbl : (backV L).length ≤ 7 := by
      unfold backV; split
      · rw [backB_len]; exact hl
      · simp
    go_wp2_with fail
    refine (c_iBackOf L D d _ hD1 hd1 (by omega)).mono ?_
    rintro e w2 ⟨v2, rfl, o2, hb2⟩
    obtain ⟨G, g, rfl, hg1, hg2, hG2⟩ := o2.form
    clear o2
    have k2 := k1.trans (hb2.mono hs1)
    have hs2 := k2.size
    have hD2 := (hD1.below hb2).more hb2.size
    clear k1 hb2 hD1
    go_wp2_with fail
    refine (c_sBackOf L D d _ hD2 (by omega)).mono ?_
    rintro e w3 ⟨v3, rfl, o3, hb3⟩
    obtain ⟨S, s, rfl, hg4, hg5, hS3⟩ := o3.form
    clear o3
    have k3 := k2.trans (hb3.mono hs2)
    have hs3 := k3.size
    have hD3 := (hD2.below hb3).more hb3.size
    have hG3 := (hG2.below hb3).more hb3.size
    clear k2 hb3 hD2 hG2
    go_wp2_with fail
    refine (c_sameBoth (backV L) G S _ _ g s _ hG3 hS3 (by omega)).mono ?_
    rintro e w4 ⟨rfl, hb4⟩
    have k4 := k3.trans (hb4.mono hs3)
    have hs4 := k4.size
    have hD4 := (hD3.below hb4).more hb4.size
    have hG4 := (hG3.below hb4).more hb4.size
    have hS4 := (hS3.below hb4).more hb4.size
    clear k3 hb4 hD3 hG3 hS3
    clear hS4
    cases hok : bOk L with
    | true =>
      have hBV := backV_yes hok
      have hln : (backV L).length = L.length := by rw [hBV, backB_len]
      have hl1 := (bOk_parts hok).2.1
      have hz : (((backV L).length : Int) == 0) = false := beq_eq_false_iff_ne.2 (by omega)
      have hbk : bOk (backV L) = true := by rw [hBV]; exact bOk_back hok
      have KB := fun W hW => c_iBothOk (backV L) G g W hW (by omega)
      rw [hbk] at KB
      have HKB := Lib.hid KB
      have KK := fun W hW => c_iBackOf (backV L) G g W hW (by omega) (by omega)
      have hbb : backV (backV L) = L := by rw [backV_yes hbk, hBV, backB_back]
      rw [hbb] at KK
      have HKK := Lib.hid KK
      rw [hln] at hz hg1 HKB HKK ⊢
      clear hok hBV hbk hbb KB KK hbl hg4 hln hl1
      go_wp2_with fail
      refine (HKB.out _ hG4).mono ?_
      rintro e w5 ⟨rfl, hb5⟩
      have k5 := k4.trans (hb5.mono hs4)
      have hs5 := k5.size
      have hD5 := (hD4.below hb5).more hb5.size
      have hG5 := (hG4.below hb5).more hb5.size
      clear k4 hb5 hD4 hG4
      go_wp2_with fail
      refine (HKK.out _ hG5).mono ?_
      rintro e w6 ⟨v6, rfl, o6, hb6⟩
      obtain ⟨E, e6, rfl, -, -, hE6⟩ := o6.form
      clear o6
      have k6 := k5.trans (hb6.mono hs5)
      have hs6 := k6.size
      have hD6 := (hD5.below hb6).more hb6.size
      have hG6 := (hG5.below hb6).more hb6.size
      clear k5 hb6 hD5 hG5
      go_wp2_with fail
      refine (c_sameBoth L E D _ _ e6 d _ hE6 hD6 (by omega)).mono ?_
      rintro e w7 ⟨rfl, hb7⟩
      have k7 := k6.trans (hb7.mono hs6)
      have hs7 := k7.size
      have hD7 := (hD6.below hb7).more hb7.size
      have hG7 := (hG6.below hb7).more hb7.size
      have hE7 := (hE6.below hb7).more hb7.size
      clear k6 hb7 hD6 hG6 hE6
      go_wp2_with fail
      go_ret
      exact ⟨rfl, k7⟩
    | false =>
      have hR := backV_no hok
      have KT := c_iBothOk L D d w4 hD4 (by omega)
      rw [hok] at KT
      have HKT := Lib.hid KT
      have hz : (backV L).length = 0 := by rw [hR]; rfl
      rw [hz]
      clear hok KT hR hbl hg1 hg4
      go_wp2_with fail
      refine HKT.out.mono ?_
      rintro e w5 ⟨rfl, hb5⟩
      have k5 := k4.trans (hb5.mono hs4)
      go_wp2_with fail
      refine (c_alive _).mono ?_
      rintro e w6 ⟨rfl, hb6⟩
      go_wp2_with fail
      go_ret
      exact ⟨rfl, k5.trans (hb6.mono k5.size)⟩
  · go_enter Try.func6, Try.ntmps6
    go_wp2_with fail
    go_ret
    exact ⟨rfl, Below.refl _ _⟩

end Go.Proofs.Ytofjfhifldafcaa


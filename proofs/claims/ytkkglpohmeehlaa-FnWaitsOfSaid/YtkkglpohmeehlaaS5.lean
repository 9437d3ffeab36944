/- impl.GreatestLack, spec.GreatestLack -/
import Derived.Test.YtkkglpohmeehlaaS4
namespace Go.Proofs.Ytkkglpohmeehlaa
set_option linter.unusedVariables false
open Go.RowKit
attribute [local go_sem ↓] Go.wp_at_zero Go.wp_at_succ

theorem placeOk_nat {L : List (Int × Int)} {t : Int} (h : placeOk L t = true) : ∃ n : Nat, t = n ∧ n < L.length ∧ cOk L = true := by
  obtain ⟨h1, h2, h3⟩ := placeOk_parts h
  exact ⟨t.toNat, by omega, by omega, h1⟩

set_option maxHeartbeats 2000000 in
theorem c_iGreatestLack (L : List (Int × Int)) (A : Option Addr) (c : Nat) (t : Int) (w : World) (hA : Cs w w.heap.size A L) (hn : L.length ≤ 140737488351232) :
    Calls Try.prog 19 #[.slice A L.length c, .int .i64 t] w fun e w' => e = .returned (.int .i64 (lackV L t)) ∧ Below w.heap.size w w' := by
  by_cases hp : placeOk L t = true
  · have HV := Lib.hid (lackV_yes hp)
    obtain ⟨n, rfl, hnl, h⟩ := placeOk_nat hp
    have ht' : decide ((0 : Int) ≤ (n : Int) ∧ (n : Int) ≤ (L.length : Int) - 1) = true := by simp; omega
    have hlen := cOk_len h
    have H := Lib.hid h; clear h hp
    go_enter Try.func19, Try.ntmps19
    go_wp2_with fail
    refine (c_iCustomersOk L A c _ hA hn).mono ?_
    rintro e w1 ⟨rfl, hb1⟩
    rw [H.out]
    go_wp2_with fail
    refine (c_isPlace L A c _ _ hn).mono ?_
    rintro e w' ⟨rfl, rfl⟩
    rw [ht']
    clear ht'
    have hs1 := hb1.size
    go_wp2_with fail
    refine (c_prefixesOf L H.out A c _ ((hA.below hb1).more hs1) hn).mono ?_
    rintro e w2 ⟨v, rfl, o2, hb2⟩
    obtain ⟨G, g, rfl, -, -, hG⟩ := o2.form
    rw [preTo_len]
    go_wp2_with fail
    refine (c_greatestLack L H.out G g n hnl _ hG).mono ?_
    rintro e w3 ⟨rfl, hb3⟩
    go_wp2_with fail
    go_ret
    exact ⟨by rw [HV.out]; rfl, (hb1.trans (hb2.mono hs1)).trans (hb3.mono (Nat.le_trans hs1 hb2.size))⟩
  · have hpn : placeOk L t = false := by simpa using hp
    have HV := Lib.hid (lackV_no hpn)
    by_cases h : cOk L = true
    · have ht' : decide (0 ≤ t ∧ t ≤ (L.length : Int) - 1) = false := by simpa [placeOk, h] using hpn
      have H := Lib.hid h; clear h hp hpn
      go_enter Try.func19, Try.ntmps19
      go_wp2_with fail
      refine (c_iCustomersOk L A c _ hA hn).mono ?_
      rintro e w1 ⟨rfl, hb1⟩
      rw [H.out]
      go_wp2_with fail
      refine (c_isPlace L A c _ _ hn).mono ?_
      rintro e w' ⟨rfl, rfl⟩
      rw [ht']
      clear ht'
      go_wp2_with fail
      go_ret
      exact ⟨by rw [HV.out]; rfl, hb1⟩
    · have hno : cOk L = false := by simpa using h
      have H := Lib.hid hno; clear h hno hp hpn
      go_enter Try.func19, Try.ntmps19
      go_wp2_with fail
      refine (c_iCustomersOk L A c _ hA hn).mono ?_
      rintro e w1 ⟨rfl, hb1⟩
      rw [H.out]
      go_wp2_with fail
      go_ret
      exact ⟨by rw [HV.out]; rfl, hb1⟩

set_option maxHeartbeats 2000000 in
theorem c_sGreatestLack (L : List (Int × Int)) (A : Option Addr) (c : Nat) (t : Int) (w : World) (hA : Cs w w.heap.size A L) (hn : L.length ≤ 140737488351232) :
    Calls Try.prog 26 #[.slice A L.length c, .int .i64 t] w fun e w' => e = .returned (.int .i64 (lackV L t)) ∧ Below w.heap.size w w' := by
  by_cases hp : placeOk L t = true
  · have HV := Lib.hid (lackV_yes hp)
    obtain ⟨n, rfl, hnl, h⟩ := placeOk_nat hp
    have ht' : decide ((0 : Int) ≤ (n : Int) ∧ (n : Int) ≤ (L.length : Int) - 1) = true := by simp; omega
    have hlen := cOk_len h
    have Hst := Lib.hid (lackInv_start h hnl)
    have Hwb := Lib.hid (waitAt_bd h n hnl)
    have Hsb := Lib.hid (sumTo_bd h)
    have Hbd := Lib.hid (fun k => @cOk_bd L k h)
    have H := Lib.hid h; clear h hp
    go_enter Try.func26, Try.ntmps26
    go_wp2_with fail
    refine (c_sCustomersOk L A c _ hA hn).mono ?_
    rintro e w1 ⟨rfl, hb1⟩
    rw [H.out]
    go_wp2_with fail
    refine (c_l1In _ _ _ _).mono ?_
    rintro e w' ⟨rfl, rfl⟩
    rw [ht']
    clear ht'
    have hs1 := hb1.size
    go_wp2_with fail
    go_loopw [5, 6, 7] (fun b s i wr => ∃ (k m : Nat) (bb : Int), k ≤ n ∧ i = .int .i64 ((k : Int) - 1) ∧ s = .int .i64 (sumTo L n - sumTo L k) ∧ b = .int .i64 bb ∧ Hid (lackInv L n k bb) ∧ wr = w'.drewN m)
      (fun _ _ i _ => (intOf i + 1).toNat)
    case atStart => exact ⟨n, 0, 0, Nat.le_refl _, rfl, by rw [Int.sub_self], rfl, Hst.out, rfl⟩
    case round =>
      obtain ⟨k, m, bb, hk, rfl, rfl, rfl, hinv, rfl⟩ := hrel
      by_cases hlt : 0 < k
      · obtain ⟨b, off, rfl, hlb, hc⟩ := hA (by omega)
        have c1 := (hb1.cell (p := ⟨b, off + n * 2, none⟩) hlb).trans (hc n hnl).1
        have c2 := (hb1.cell (p := ⟨b, off + (k - 1) * 2, none⟩) hlb).trans (hc (k - 1) (by omega)).1
        have c3 := (hb1.cell (p := ⟨b, off + (k - 1) * 2 + 1, none⟩) hlb).trans (hc (k - 1) (by omega)).2
        clear hc
        have b1 := Hsb.out n (by omega)
        have b2 := Hsb.out k (by omega)
        have b3 := Hsb.out (k - 1) (by omega)
        have b4 := Hbd.out (k - 1) (by omega)
        have b5 := Hbd.out n hnl
        have b6 := Hwb.out
        have hst : sumTo L k = sumTo L (k - 1) + Y L (k - 1) := by
          obtain ⟨j, rfl⟩ : ∃ j, k = j + 1 := ⟨k - 1, by omega⟩
          rfl
        have E1 := Lib.hid (show sumTo L n - sumTo L k + Y L (k - 1) = sumTo L n - sumTo L (k - 1) by omega)
        have E2 := Lib.hid (show sumTo L n - sumTo L k + Y L (k - 1) - (X L n - X L (k - 1)) = pre L n - pre L (k - 1) by simp only [pre]; omega)
        clear hst
        have hk0' : (0 : Int) ≤ (k : Int) - 1 := by omega
        have hk1' : (k : Int) - 1 < (L.length : Int) := by omega
        have hk2' : (n : Int) < (L.length : Int) := by omega
        have hk3' : (0 : Int) ≤ (n : Int) := by omega
        go_wp2_with fail
        have q6 : ((k : Int) - 1).toNat = k - 1 := by omega
        have q7 : IntKind.i64.wrap (X L n - X L (k - 1)) = X L n - X L (k - 1) := IntWalk.i64_in _ (by omega)
        have q8 : IntKind.i64.wrap (sumTo L n - sumTo L k + Y L (k - 1) - (X L n - X L (k - 1))) = sumTo L n - sumTo L k + Y L (k - 1) - (X L n - X L (k - 1)) := IntWalk.i64_in _ (by omega)
        go_quiet (fail)
        clear q6 q7 q8
        have hnx : lackInv L n (k - 1) (max bb (pre L n - pre L (k - 1))) := by
          have hi := hinv.out
          obtain ⟨j, rfl⟩ : ∃ j, k = j + 1 := ⟨k - 1, by omega⟩
          exact lackInv_step hi
        go_wp2_with fail
        go_roundw
        case rel =>
          refine ⟨k - 1, _, max bb (pre L n - pre L (k - 1)), by omega, by go_num, by rw [E1.out], ?_, hnx, rfl⟩
          rw [← E2.out]
          congr 1; split <;> omega
        case measure => simp [intOf]; omega
      · go_wp2_with fail
        go_ret
        obtain rfl : k = 0 := by omega
        exact ⟨by rw [HV.out, lackInv_end hinv.out]; rfl, by (repeat (first | exact hb1 | exact Below.refl _ _ | (with_reducible refine Below.drew ?_) | (with_reducible refine Below.drewN ?_ _) | (with_reducible refine Below.alloc ?_ ?_ _) | (with_reducible refine Below.setCell ?_ ?_ _) | (show _ ≤ _; focus (first | omega | (simp; done) | (simp; omega)))))⟩
  · have hpn : placeOk L t = false := by simpa using hp
    have HV := Lib.hid (lackV_no hpn)
    by_cases h : cOk L = true
    · have ht' : decide (0 ≤ t ∧ t ≤ (L.length : Int) - 1) = false := by simpa [placeOk, h] using hpn
      have H := Lib.hid h; clear h hp hpn
      go_enter Try.func26, Try.ntmps26
      go_wp2_with fail
      refine (c_sCustomersOk L A c _ hA hn).mono ?_
      rintro e w1 ⟨rfl, hb1⟩
      rw [H.out]
      go_wp2_with fail
      refine (c_l1In _ _ _ _).mono ?_
      rintro e w' ⟨rfl, rfl⟩
      rw [ht']
      clear ht'
      go_wp2_with fail
      go_ret
      exact ⟨by rw [HV.out]; rfl, hb1⟩
    · have hno : cOk L = false := by simpa using h
      have H := Lib.hid hno; clear h hno hp hpn
      go_enter Try.func26, Try.ntmps26
      go_wp2_with fail
      refine (c_sCustomersOk L A c _ hA hn).mono ?_
      rintro e w1 ⟨rfl, hb1⟩
      rw [H.out]
      go_wp2_with fail
      go_ret
      exact ⟨by rw [HV.out]; rfl, hb1⟩

end Go.Proofs.Ytkkglpohmeehlaa


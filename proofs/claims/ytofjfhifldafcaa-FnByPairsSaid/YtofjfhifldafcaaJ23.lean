/- walks of the laws of chapter 9, third part: FnInOrder, FnByPairs, FnLeastWay -/
import Derived.Test.YtofjfhifldafcaaKR
import Derived.Test.YtofjfhifldafcaaI8
import Derived.Test.YtofjfhifldafcaaH
import Derived.Test.YtofjfhifldafcaaJ22
namespace Go.Proofs.Ytofjfhifldafcaa
set_option linter.unusedVariables false
open Go.RowKit
attribute [local go_sem ↓] Go.wp_at_zero Go.wp_at_succ

set_option maxHeartbeats 4000000 in
theorem w_FnInOrder (A : Option Addr) (n c : Nat) (w : World) (h : Bs w w.heap.size A n) (hc : n ≤ c) :
    Calls Try.prog 7 #[.slice A n c] w fun e w' => e = .returned (.bool true) ∧ Below w.heap.size w w' := by
  by_cases hn : n ≤ 1048576
  · go_enter Try.func7, Try.ntmps7
    have k0 := Below.refl w.heap.size w
    have hs0 := k0.size
    go_wp2_with fail
    refine (c_DrawInOrder A n c _ h hn hc).mono ?_
    rintro e w1 ⟨L, v, o, u, rfl, hv, hl, hu, hol, hb1⟩
    obtain ⟨D, d, rfl, hd1, hd2, hD1⟩ := hv.form
    obtain ⟨O, od, rfl, ho1, ho2, hO1⟩ := hu.form
    clear hv hu h
    have k1 := k0.trans (hb1.mono hs0)
    have hs1 := k1.size
    clear k0 hb1
    have hbl : (inV L o).length ≤ 8 := by
      unfold inV; split
      · rw [inOrd_len]; exact hol
      · simp
    go_wp2_with fail
    refine (c_iInOrder L o D O d od _ hD1 hO1 (by omega) (by omega)).mono ?_
    rintro e w2 ⟨v2, rfl, o2, hb2⟩
    obtain ⟨G, g, rfl, hg1, hg2, hG2⟩ := o2.form
    clear o2
    have k2 := k1.trans (hb2.mono hs1)
    have hs2 := k2.size
    have hD2 := (hD1.below hb2).more hb2.size
    have hO2 := (hO1.below hb2).more hb2.size
    clear k1 hb2 hD1 hO1
    go_wp2_with fail
    refine (c_sInOrder L o D O d od _ hD2 hO2 (by omega) (by omega)).mono ?_
    rintro e w3 ⟨v3, rfl, o3, hb3⟩
    obtain ⟨S, s, rfl, hg4, hg5, hS3⟩ := o3.form
    clear o3
    have k3 := k2.trans (hb3.mono hs2)
    have hs3 := k3.size
    have hD3 := (hD2.below hb3).more hb3.size
    have hO3 := (hO2.below hb3).more hb3.size
    have hG3 := (hG2.below hb3).more hb3.size
    clear k2 hb3 hD2 hO2 hG2
    go_wp2_with fail
    refine (c_sameBoth (inV L o) G S _ _ g s _ hG3 hS3 (by omega)).mono ?_
    rintro e w4 ⟨rfl, hb4⟩
    have k4 := k3.trans (hb4.mono hs3)
    have hs4 := k4.size
    have hD4 := (hD3.below hb4).more hb4.size
    have hO4 := (hO3.below hb4).more hb4.size
    have hG4 := (hG3.below hb4).more hb4.size
    have hS4 := (hS3.below hb4).more hb4.size
    clear k3 hb4 hD3 hO3 hG3 hS3
    clear hS4
    have hne : (inOk L o != inOk L o) = false := by simp
    cases hok : inOk L o with
    | true =>
      obtain ⟨hb, he⟩ := inOk_parts hok
      have hV := inV_yes hok
      have hln : (inV L o).length = L.length := by rw [hV, inOrd_len, each_len he]
      have hbk : bOk (inV L o) = true := by rw [hV]; exact bOk_inOrd hb he
      have KB := fun W hW => c_iBothOk (inV L o) G g W hW (by omega)
      rw [hbk] at KB
      have KL := fun W hW => c_iLongestWay (inV L o) G g W hW hg1 (by omega)
      have hle : leastB L ≤ longV (inV L o) := by rw [hV, long_inOrd hb he]; exact leastB_le hb he
      have dle : decide (leastB L ≤ longV (inV L o)) = true := decide_eq_true hle
      have deq : ((L.length : Int) == (L.length : Int)) = true := by simp
      rw [hok] at hne
      rw [hln] at KB KL hg1 ⊢
      have HKB := Lib.hid KB
      have HKL := Lib.hid KL
      clear hok hb he hV hbk KB KL hbl hg4 hle hln
      go_wp2_with fail
      refine (HKB.out _ hG4).mono ?_
      rintro e w5 ⟨rfl, hb5⟩
      have k5 := k4.trans (hb5.mono hs4)
      have hs5 := k5.size
      have hD5 := (hD4.below hb5).more hb5.size
      have hO5 := (hO4.below hb5).more hb5.size
      have hG5 := (hG4.below hb5).more hb5.size
      clear k4 hb5 hD4 hO4 hG4
      go_wp2_with fail
      refine (HKL.out _ hG5).mono ?_
      rintro e w6 ⟨rfl, hb6⟩
      have k6 := k5.trans (hb6.mono hs5)
      have hs6 := k6.size
      have hD6 := (hD5.below hb6).more hb6.size
      have hO6 := (hO5.below hb6).more hb6.size
      have hG6 := (hG5.below hb6).more hb6.size
      clear k5 hb6 hD5 hO5 hG5
      go_wp2_with fail
      refine (c_iLeastWay L D d _ hD6 hd1 (by omega)).mono ?_
      rintro e w7 ⟨rfl, hb7⟩
      have k7 := k6.trans (hb7.mono hs6)
      have hs7 := k7.size
      have hD7 := (hD6.below hb7).more hb7.size
      have hO7 := (hO6.below hb7).more hb7.size
      have hG7 := (hG6.below hb7).more hb7.size
      clear k6 hb7 hD6 hO6 hG6
      go_wp2_with fail
      go_ret
      exact ⟨rfl, k7⟩
    | false =>
      have hR := inV_no hok
      have hz : (inV L o).length = 0 := by rw [hR]; rfl
      rw [hok] at hne
      rw [hz]
      clear hok hR hbl hg1 hg4
      go_wp2_with fail
      refine (c_alive _).mono ?_
      rintro e w6 ⟨rfl, hb6⟩
      go_wp2_with fail
      go_ret
      exact ⟨rfl, k4.trans (hb6.mono hs4)⟩
  · go_enter Try.func7, Try.ntmps7
    go_wp2_with fail
    go_ret
    exact ⟨rfl, Below.refl _ _⟩

set_option maxHeartbeats 4000000 in
theorem w_FnByPairs (A : Option Addr) (n c : Nat) (w : World) (h : Bs w w.heap.size A n) (hc : n ≤ c) :
    Calls Try.prog 8 #[.slice A n c] w fun e w' => e = .returned (.bool true) ∧ Below w.heap.size w w' := by
  by_cases hn : n ≤ 1048576
  · go_enter Try.func8, Try.ntmps8
    have k0 := Below.refl w.heap.size w
    have hs0 := k0.size
    go_wp2_with fail
    refine (c_DrawByPairs A n c _ h hn hc).mono ?_
    rintro e w1 ⟨L, v, rfl, hv, hl, hb1⟩
    obtain ⟨D, d, rfl, hd1, hd2, hD1⟩ := hv.form
    clear hv h
    have k1 := k0.trans (hb1.mono hs0)
    have hs1 := k1.size
    clear k0 hb1
    have hbl : (pairsV L).length ≤ 7 := by
      cases h : bOk L with
      | true => have := (bOk_parts h).2.2; rw [pairsV_yes h, (pairsR_perm h).length_eq, upto_len]; omega
      | false => rw [pairsV_no h]; simp
    go_wp2_with fail
    refine (c_iByPairs L D d _ hD1 hd1 (by omega)).mono ?_
    rintro e w2 ⟨v2, rfl, o2, hb2⟩
    obtain ⟨G, g, rfl, hg1, hg2, hG2⟩ := o2.form
    clear o2
    have k2 := k1.trans (hb2.mono hs1)
    have hs2 := k2.size
    have hD2 := (hD1.below hb2).more hb2.size
    clear k1 hb2 hD1
    go_wp2_with fail
    refine (c_sByPairs L D d _ hD2 (by omega)).mono ?_
    rintro e w3 ⟨v3, rfl, o3, hb3⟩
    obtain ⟨S, s, rfl, hg4, hg5, hS3⟩ := o3.form
    clear o3
    have k3 := k2.trans (hb3.mono hs2)
    have hs3 := k3.size
    have hD3 := (hD2.below hb3).more hb3.size
    have hG3 := (hG2.below hb3).more hb3.size
    clear k2 hb3 hD2 hG2
    go_wp2_with fail
    refine (c_sameInts (pairsV L) G S _ _ g s _ hG3 hS3 (by omega)).mono ?_
    rintro e w4 ⟨rfl, hb4⟩
    have k4 := k3.trans (hb4.mono hs3)
    have hs4 := k4.size
    have hD4 := (hD3.below hb4).more hb4.size
    have hG4 := (hG3.below hb4).more hb4.size
    have hS4 := (hS3.below hb4).more hb4.size
    clear k3 hb4 hD3 hG3 hS3
    clear hS4
    cases hok : bOk L with
    | true =>
      have hV := pairsV_yes hok
      have hE : eachV (pairsV L) L.length = true := by rw [hV]; exact pairsR_each hok
      have hln : (pairsV L).length = L.length := by rw [hV, (pairsR_perm hok).length_eq, upto_len]
      have hl1 := (bOk_parts hok).2.1
      have hin : inOk L (pairsV L) = true := by simp [inOk, hok, hE]
      have hz : (((pairsV L).length : Int) == 0) = false := beq_eq_false_iff_ne.2 (by omega)
      have hlw : longV (inV L (pairsV L)) = leastB L := by rw [inV_yes hin, long_inOrd hok hE, leastB_pairs hok, hV]
      have hil : (inV L (pairsV L)).length = L.length := by rw [inV_yes hin, inOrd_len, hln]
      have KI := fun W h1 h2 => c_iInOrder L (pairsV L) D G d g W h1 h2 (by omega) (by omega)
      rw [hin] at KI
      have KE := fun W hW => c_iEachOnce9 (pairsV L) G g (L.length : Int) W hW (by omega)
      rw [hE] at KE
      have KL := fun (X9 : Option Addr) (x : Nat) W hW (hx : L.length ≤ x) => c_iLongestWay (inV L (pairsV L)) X9 x W hW (by omega) (by omega)
      rw [hlw] at KL
      have deq : (leastB L == leastB L) = true := by simp
      rw [hln] at hz hg1 KI KE ⊢
      rw [hil] at KL
      have HKI := Lib.hid KI
      have HKE := Lib.hid KE
      have HKL := Lib.hid KL
      have HIL := Lib.hid hil
      clear hok hV hE hln hl1 hin hlw hil KI KE KL hbl hg4
      go_wp2_with fail
      refine (HKI.out _ hD4 hG4).mono ?_
      rintro e w5 ⟨v5, rfl, o5, hb5⟩
      obtain ⟨X9, x9, rfl, hx1, hx2, hX5⟩ := o5.form
      rw [HIL.out] at hx1 ⊢
      clear o5
      have k5 := k4.trans (hb5.mono hs4)
      have hs5 := k5.size
      have hD5 := (hD4.below hb5).more hb5.size
      have hG5 := (hG4.below hb5).more hb5.size
      clear k4 hb5 hD4 hG4
      go_wp2_with fail
      refine (HKE.out _ hG5).mono ?_
      rintro e w6 ⟨rfl, hb6⟩
      have k6 := k5.trans (hb6.mono hs5)
      have hs6 := k6.size
      have hD6 := (hD5.below hb6).more hb6.size
      have hG6 := (hG5.below hb6).more hb6.size
      have hX6 := (hX5.below hb6).more hb6.size
      clear k5 hb6 hD5 hG5 hX5
      go_wp2_with fail
      refine (HKL.out _ _ _ hX6 hx1).mono ?_
      rintro e w7 ⟨rfl, hb7⟩
      have k7 := k6.trans (hb7.mono hs6)
      have hs7 := k7.size
      have hD7 := (hD6.below hb7).more hb7.size
      have hG7 := (hG6.below hb7).more hb7.size
      have hX7 := (hX6.below hb7).more hb7.size
      clear k6 hb7 hD6 hG6 hX6
      go_wp2_with fail
      refine (c_iLeastWay L D d _ hD7 hd1 (by omega)).mono ?_
      rintro e w8 ⟨rfl, hb8⟩
      have k8 := k7.trans (hb8.mono hs7)
      have hs8 := k8.size
      have hD8 := (hD7.below hb8).more hb8.size
      have hG8 := (hG7.below hb8).more hb8.size
      have hX8 := (hX7.below hb8).more hb8.size
      clear k7 hb8 hD7 hG7 hX7
      go_wp2_with fail
      go_ret
      exact ⟨rfl, k8⟩
    | false =>
      have hR := pairsV_no hok
      have KT := c_iBothOk L D d w4 hD4 (by omega)
      rw [hok] at KT
      have HKT := Lib.hid KT
      have hz : (pairsV L).length = 0 := by rw [hR]; rfl
      rw [hz]
      clear hok KT hR hbl hg1 hg4
      go_wp2_with fail
      refine HKT.out.mono ?_
      rintro e w5 ⟨rfl, hb5⟩
      have k5 := k4.trans (hb5.mono hs4)
      go_wp2_with fail
      refine (c_alive _).mono ?_
      rintro e w6 ⟨rfl, hb6⟩
      go_wp2_with fail
      go_ret
      exact ⟨rfl, k5.trans (hb6.mono k5.size)⟩
  · go_enter Try.func8, Try.ntmps8
    go_wp2_with fail
    go_ret
    exact ⟨rfl, Below.refl _ _⟩

set_option maxHeartbeats 4000000 in
theorem w_FnLeastWay (A : Option Addr) (n c : Nat) (w : World) (h : Bs w w.heap.size A n) (hc : n ≤ c) :
    Calls Try.prog 9 #[.slice A n c] w fun e w' => e = .returned (.bool true) ∧ Below w.heap.size w w' := by
  by_cases hn : n ≤ 1048576
  · go_enter Try.func9, Try.ntmps9
    have k0 := Below.refl w.heap.size w
    have hs0 := k0.size
    go_wp2_with fail
    refine (c_DrawLeastWay A n c _ h hn hc).mono ?_
    rintro e w1 ⟨L, v, rfl, hv, hl, hb1⟩
    obtain ⟨D, d, rfl, hd1, hd2, hD1⟩ := hv.form
    clear hv h
    have k1 := k0.trans (hb1.mono hs0)
    have hs1 := k1.size
    clear k0 hb1
    go_wp2_with fail
    refine (c_iLeastWay L D d _ hD1 hd1 (by omega)).mono ?_
    rintro e w2 ⟨rfl, hb2⟩
    have k2 := k1.trans (hb2.mono hs1)
    have hs2 := k2.size
    have hD2 := (hD1.below hb2).more hb2.size
    clear k1 hb2 hD1
    go_wp2_with fail
    refine (c_sLeastWay L D d _ hD2 (by omega)).mono ?_
    rintro e w3 ⟨rfl, hb3⟩
    have k3 := k2.trans (hb3.mono hs2)
    have hs3 := k3.size
    have hD3 := (hD2.below hb3).more hb3.size
    clear k2 hb3 hD2
    have hne : (leastB L != leastB L) = false := by simp
    cases hok : bOk L with
    | true =>
      have hb9 := leastB_bd hok
      have hlow := leastB_low hok
      have HFB := Lib.hid (pF_bd hok)
      have HLB9 := Lib.hid (lowN_bd hok)
      have HXY := Lib.hid (bOk_parts hok).1
      have hl1 := (bOk_parts hok).2
      have hbv := backV_yes hok
      have HBL := Lib.hid (show (backV L).length = L.length by rw [hbv, backB_len])
      have HLB := Lib.hid (show leastB (backV L) = leastB L by rw [hbv]; exact leastB_back hok)
      have d0 : decide (leastB L < 0) = false := decide_eq_false (by omega)
      clear hok hbv
      go_wp2_with fail
      go_loopw [5, 6, 7] (fun f s i wr => ∃ k : Nat, k ≤ L.length ∧ i = .int .i64 (k : Int) ∧ f = .int .i64 (pF L k) ∧ s = .int .i64 (lowN L k) ∧ wr = w3) (fun _ _ i _ => L.length - (intOf i).toNat)
      case atStart => exact ⟨0, by omega, rfl, rfl, rfl, rfl⟩
      case round =>
        obtain ⟨k, hk, rfl, rfl, rfl, rfl⟩ := hrel
        by_cases hlt : k < L.length
        · obtain ⟨b, off, rfl, hlb, hcc⟩ := hD3 (by omega)
          have c1 := (hcc k hlt).1
          have c2 := (hcc k hlt).2
          have f1 := HFB.out k hk
          have f3 := HXY.out k hlt
          have p0 : (0 : Int) ≤ (k : Int) := by omega
          have p1 : (k : Int) < (L.length : Int) := by omega
          have HF1 := Lib.hid (show pF L (k + 1) = pF L k + X L k from rfl)
          have HS1 := Lib.hid (show lowN L (k + 1) = min (lowN L k) (Y L k) from rfl)
          clear hcc
          generalize pF L k = f at *
          generalize lowN L k = s at *
          go_wp2_with fail
          go_roundw
          case rel => exact ⟨k + 1, by omega, by go_num, by rw [HF1.out], by rw [HS1.out]; congr 1; split <;> omega, by first | rfl | trivial⟩
          case measure => simp [intOf]; omega
        · have hlf : ¬ ((k : Int) < (L.length : Int)) := by omega
          obtain rfl : k = L.length := by omega
          have HBa := Lib.hid (c_iBackOf L D d wr hD3 hd1 (by omega))
          have f1 := HFB.out L.length hk
          have f2 := HLB9.out L.length hk
          have q1 : IntKind.i64.wrap (pF L L.length + lowN L L.length) = pF L L.length + lowN L L.length := IntWalk.i64_in _ (by omega)
          have d3 : decide (pF L L.length + lowN L L.length ≤ leastB L) = true := decide_eq_true (by omega)
          have de : (leastB L == leastB L) = true := by simp
          clear hb9 hlow f1 f2
          go_wp2_with fail
          refine HBa.out.mono ?_
          rintro e w4 ⟨v4, rfl, o4, hb4⟩
          obtain ⟨G, g, rfl, hg1, hg2, hG⟩ := o4.form
          have KL := c_iLeastWay (backV L) G g w4 hG hg1 (by rw [HBL.out]; omega)
          rw [HLB.out] at KL
          have HKL := Lib.hid KL
          clear KL o4 hG
          go_wp2_with fail
          refine HKL.out.mono ?_
          rintro e w5 ⟨rfl, hb5⟩
          have kx := k3.trans ((hb4.trans (hb5.mono hb4.size)).mono hs3)
          clear hb4 hb5
          go_wp2_with fail
          go_ret
          exact ⟨rfl, kx⟩
    | false =>
      have hV := leastB_no hok
      rw [hV] at hne ⊢
      clear hok hV
      go_wp2_with fail
      refine (c_alive _).mono ?_
      rintro e w4 ⟨rfl, hb4⟩
      go_wp2_with fail
      go_ret
      exact ⟨rfl, k3.trans (hb4.mono hs3)⟩
  · go_enter Try.func9, Try.ntmps9
    go_wp2_with fail
    go_ret
    exact ⟨rfl, Below.refl _ _⟩

end Go.Proofs.Ytofjfhifldafcaa


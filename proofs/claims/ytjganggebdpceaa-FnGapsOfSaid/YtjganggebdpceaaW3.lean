/- walks of the laws of chapter 1, third part: FnLaterBy, FnLastLeave -/
import Derived.Test.YtjganggebdpceaaW2
import Derived.Test.YtjganggebdpceaaV2
import Derived.Test.YtjganggebdpceaaR2
namespace Go.Proofs.Ytjganggebdpceaa
set_option linter.unusedVariables false
open Go.RowKit
attribute [local go_sem ↓] Go.wp_at_zero Go.wp_at_succ


set_option maxHeartbeats 4000000 in
theorem w_FnLaterBy (A : Option Addr) (n c : Nat) (w : World) (h : Bs w w.heap.size A n) (hc : n ≤ c) :
    Calls Try.prog 7 #[.slice A n c] w fun e w' => e = .returned (.bool true) ∧ Below w.heap.size w w' := by
  by_cases hn : n ≤ 1048576
  · go_enter Try.func7, Try.ntmps7
    go_wp2_with fail
    refine (c_DrawLaterBy A n c _ h hn hc).mono ?_
    rintro e w1 ⟨L, v, t, rfl, hv, hl, -, ht, hb1⟩
    obtain ⟨B, d, rfl, hd1, hd2, hB⟩ := hv.form
    have hs1 := hb1.size
    clear hv
    go_wp2_with fail
    refine (c_iLaterBy L B d t _ hB (by omega)).mono ?_
    rintro e w2 ⟨v2, rfl, o2, hb2⟩
    simp only [laterV]
    have k2 := hb1.trans (hb2.mono hs1)
    have hs2 := k2.size
    have hB2 := (hB.below hb2).more hb2.size
    obtain ⟨G, g, rfl, hg1, hg2, hG⟩ := o2.form
    clear hb1 hb2 hB o2
    go_wp2_with fail
    refine (c_sLaterBy L B d t _ hB2 (by omega)).mono ?_
    rintro e w3 ⟨v3, rfl, o3, hb3⟩
    simp only [laterV]
    have k3 := k2.trans (hb3.mono hs2)
    have hs3 := k3.size
    have hB3 := (hB2.below hb3).more hb3.size
    have hG3 := (hG.below hb3).more hb3.size
    obtain ⟨G3, g3, rfl, -, -, hG3'⟩ := o3.form
    clear k2 hb3 hB2 o3 hG
    go_wp2_with fail
    refine (c_sameCustomers (laterR L t) G G3 _ _ g g3 _ hG3 hG3' (by have := laterR_len L t; omega)).mono ?_
    rintro e w4 ⟨rfl, hb4⟩
    have k4 := k3.trans (hb4.mono hs3)
    have hs4 := k4.size
    have hB4 := (hB3.below hb4).more hb4.size
    have hG4 := (hG3.below hb4).more hb4.size
    clear k3 hb4 hB3 hG3 hG3'
    by_cases hok : laterOk L t = true
    · obtain ⟨h1, h2, h3⟩ := laterOk_parts hok
      have Hbd := Lib.hid (fun k => @cOk_bd L k h1)
      have Hll := Lib.hid (fun hn => @lastLeave_later L t hok hn)
      have HlX := Lib.hid (fun k hk => @laterL_X L t k hk)
      have HlY := Lib.hid (fun k hk => @laterL_Y L t k hk)
      have hlb := lastLeave_bd h1
      have e := laterR_yes hok
      have hlen : (laterL L t).length = L.length := laterL_len L t
      have Hok := Lib.hid hok; clear hok h1 h3
      rw [Hok.out]
      rw [e] at hG4 Hll ⊢
      have Hlen := Lib.hid hlen; clear hlen e
      rw [Hlen.out]
      obtain ⟨t1, t2⟩ := h2
      go_wp2_with fail
      go_loopw [9] (fun i wr => ∃ k m : Nat, k ≤ L.length ∧ i = .int .i64 k ∧ wr = w4.drewN m) (fun i _ => L.length - (intOf i).toNat)
      case atStart => exact ⟨0, 0, Nat.zero_le _, rfl, rfl⟩
      case round =>
        obtain ⟨k, m, hk, rfl, rfl⟩ := hrel
        by_cases hlt : k < L.length
        · obtain ⟨b, off, rfl, hlb1, hcl⟩ := hB4 (by omega)
          obtain ⟨b2, off2, rfl, hlb2, hcl2⟩ := hG4 (by rw [Hlen.out]; omega)
          obtain ⟨c1, c2⟩ := hcl k hlt
          obtain ⟨c3, c4⟩ := hcl2 k (by rw [Hlen.out]; omega)
          rw [HlX.out k hlt] at c3
          rw [HlY.out k hlt] at c4
          have hbd := Hbd.out k hlt
          clear hcl hcl2
          go_wp2_with fail
          have q1 : IntKind.i64.wrap (X L k + t) = X L k + t := IntWalk.i64_in _ (by omega)
          go_quiet (fail)
          clear q1
          go_wp2_with fail
          go_roundw
          case rel => exact ⟨k + 1, _, by omega, by go_num, rfl⟩
          case measure => simp [intOf]; omega
        · obtain rfl : k = L.length := by omega
          have hbq : Below w4.heap.size w4 (w4.drewN m) := by (repeat (first | exact rfl | exact Below.refl _ _ | (with_reducible refine Below.drew ?_) | (with_reducible refine Below.drewN ?_ _) | (with_reducible refine Below.alloc ?_ ?_ _) | (with_reducible refine Below.setCell ?_ ?_ _) | (show _ ≤ _; focus (first | omega | (simp; done) | (simp; omega)))))
          by_cases hL : L.length = 0
          · have hLb : ((L.length : Int) == 0) = true := beq_iff_eq.2 (by omega)
            go_wp2_with fail
            refine (c_alive _).mono ?_
            rintro e w6 ⟨rfl, hb6⟩
            go_wp2_with fail
            go_ret
            exact ⟨rfl, (k4.trans (hbq.mono hs4)).trans (hb6.mono hs4)⟩
          · have hLb : ((L.length : Int) == 0) = false := beq_eq_false_iff_ne.2 (by omega)
            have hll := Hll.out (by omega)
            have q2 : (lastLeave (laterL L t) == lastLeave L + t) = true := beq_iff_eq.2 hll
            have K := c_iLastLeave (laterL L t) G g (w4.drewN m) ((hG4.below hbq)) (by rw [Hlen.out]; omega)
            rw [Hlen.out] at K
            have HK := Lib.hid K
            clear K hll
            go_wp2_with fail
            refine HK.out.mono ?_
            rintro e w6 ⟨rfl, hb6⟩
            have k6 := (k4.trans (hbq.mono hs4)).trans (hb6.mono hs4)
            have hs6 := k6.size
            go_wp2_with fail
            refine (c_iLastLeave L B d _ (((hB4.below hbq).below hb6).more hb6.size) (by omega)).mono ?_
            rintro e w7 ⟨rfl, hb7⟩
            have k7 := k6.trans (hb7.mono hs6)
            have hs7 := k7.size
            go_wp2_with fail
            refine (c_alive _).mono ?_
            rintro e w8 ⟨rfl, hb8⟩
            go_wp2_with fail
            go_ret
            exact ⟨rfl, k7.trans (hb8.mono hs7)⟩
    · have hno : laterOk L t = false := by simpa using hok
      have hl0 : (laterR L t).length = 0 := by rw [laterR_no hno]; rfl
      have Hok := Lib.hid hno; clear hok hno
      rw [Hok.out]
      rw [hl0]
      clear hl0
      go_wp2_with fail
      refine (c_alive _).mono ?_
      rintro e w6 ⟨rfl, hb6⟩
      go_wp2_with fail
      go_ret
      exact ⟨rfl, k4.trans (hb6.mono hs4)⟩
  · go_enter Try.func7, Try.ntmps7
    go_wp2
    go_ret
    exact ⟨rfl, Below.refl _ _⟩

theorem fwd_last {L : List (Int × Int)} (h : cOk L = true) (hn : 0 < L.length) : lastLeave L = max (lastLeave (L.take (L.length - 1))) (X L (L.length - 1)) + Y L (L.length - 1) := by
  rw [lastLeave_take h (by omega), lastLeave_fwd h]
  have e : L.length = (L.length - 1) + 1 := by omega
  rw [e]
  simp only [fwd, Nat.add_sub_cancel]

set_option maxHeartbeats 4000000 in
theorem w_FnLastLeave (A : Option Addr) (n c : Nat) (w : World) (h : Bs w w.heap.size A n) (hc : n ≤ c) :
    Calls Try.prog 8 #[.slice A n c] w fun e w' => e = .returned (.bool true) ∧ Below w.heap.size w w' := by
  by_cases hn : n ≤ 1048576
  · go_enter Try.func8, Try.ntmps8
    go_wp2_with fail
    refine (c_DrawLastLeave A n c _ h hn hc).mono ?_
    rintro e w1 ⟨L, v, rfl, hv, hl, -, hb1⟩
    obtain ⟨B, d, rfl, hd1, hd2, hB⟩ := hv.form
    have hs1 := hb1.size
    clear hv
    go_wp2_with fail
    refine (c_iLastLeave L B d _ hB (by omega)).mono ?_
    rintro e w2 ⟨rfl, hb2⟩
    have k2 := hb1.trans (hb2.mono hs1)
    have hs2 := k2.size
    have hB2 := (hB.below hb2).more hb2.size
    clear hb1 hb2 hB
    go_wp2_with fail
    refine (c_sLastLeave L B d _ hB2 (by omega)).mono ?_
    rintro e w3 ⟨rfl, hb3⟩
    have k3 := k2.trans (hb3.mono hs2)
    have hs3 := k3.size
    have hB3 := (hB2.below hb3).more hb3.size
    clear k2 hb3 hB2
    by_cases hok : cOk L = true
    · have hll := lastLeave_bd hok
      by_cases hL : L.length = 0
      · have hL' : L = [] := List.eq_nil_of_length_eq_zero hL
        subst hL'
        have hN : lastLeave [] = 0 := by decide
        rw [hN]
        clear hll hN
        go_wp2_with fail
        refine (c_alive _).mono ?_
        rintro e w6 ⟨rfl, hb6⟩
        go_wp2_with fail
        go_ret
        exact ⟨rfl, k3.trans (hb6.mono hs3)⟩
      · obtain ⟨T, hT⟩ : ∃ T, T = L.take (L.length - 1) := ⟨_, rfl⟩
        have hTl : T.length = L.length - 1 := by rw [hT]; exact len_take (by omega)
        have hTok : cOk T = true := by rw [hT]; exact cOk_take hok (by omega)
        have hF := fwd_last hok (by omega)
        rw [← hT] at hF
        have hCT : Cs w3 w3.heap.size B T := by rw [hT]; exact hB3.take _
        have hYb := cOk_bd hok (k := L.length - 1) (by omega)
        have hTb := lastLeave_bd hTok
        have hND : needOf L ≤ lastLeave L := by rw [needOf_yes hok, lastLeave_fwd hok]; exact (fwd_nn hok _ (Nat.le_refl _)).1
        have hNb := needOf_bd hok
        have HTl := Lib.hid hTl; have Hok := Lib.hid hok
        clear hT hTl hTok hok
        have k1 : (0 : Int) ≤ (L.length : Int) - 1 := by omega
        have k2 : (L.length : Int) - 1 < (L.length : Int) := by omega
        have k2' : (1 : Int) ≤ (L.length : Int) := by omega
        have k3' : (L.length : Int) - 1 ≤ (d : Int) := by omega
        have hHL : T.length ≤ 140737488351232 := by rw [HTl.out]; omega
        have K := c_iLastLeave T B d w3 hCT hHL
        rw [HTl.out] at K
        have HK := Lib.hid K; clear K
        have q9 : decide ((L.length : Int) - 1 < 0) = false := by simp; omega
        by_cases hmx : lastLeave T < X L (L.length - 1)
        · have e1 : (lastLeave L == X L (L.length - 1) + Y L (L.length - 1)) = true := beq_iff_eq.2 (by rw [hF]; omega)
          clear hF
          go_wp2_with fail
          refine HK.out.mono ?_
          rintro e w4 ⟨rfl, hb4⟩
          have k4 := k3.trans (hb4.mono hs3)
          have hs4 := k4.size
          have hB4 := (hB3.below hb4).more hb4.size
          obtain ⟨b, off, rfl, hlb, hcl⟩ := hB4 (by omega)
          obtain ⟨c1, c2⟩ := hcl (L.length - 1) (by omega)
          clear hcl hB3
          go_wp2_with fail
          have q6 : ((L.length : Int) - 1).toNat = L.length - 1 := by omega
          have q7 : IntKind.i64.wrap (X L (L.length - 1) + Y L (L.length - 1)) = X L (L.length - 1) + Y L (L.length - 1) := IntWalk.i64_in _ (by omega)
          have q8 : IntKind.i64.wrap ((L.length : Int) - 1) = (L.length : Int) - 1 := IntWalk.i64_in _ (by omega)
          have c3 := WB.cell hlb c1
          have c4 := WB.cell hlb c2
          clear c1 c2
          refine wp_region_wb w4.heap.size (by kernel_rfl) (by kernel_rfl) ?_
          repeat (go_big_quiet_step ((go_at_call 20; exact Calls.inB (Nat.le_refl _) (c_iNeedOf L _ d _ (WB.cs _ hB4 (Nat.le_refl _)) (by omega)))))
          refine wpQuiet_nil ?_
          rintro _ ⟨⟨w5, hb5⟩, rfl⟩
          clear q6 q7 q8
          go_wp2_with fail
          go_ret
          exact ⟨rfl, k4.trans (hb5.mono hs4)⟩
        · have e1 : (lastLeave L == lastLeave T + Y L (L.length - 1)) = true := beq_iff_eq.2 (by rw [hF]; omega)
          clear hF
          go_wp2_with fail
          refine HK.out.mono ?_
          rintro e w4 ⟨rfl, hb4⟩
          have k4 := k3.trans (hb4.mono hs3)
          have hs4 := k4.size
          have hB4 := (hB3.below hb4).more hb4.size
          obtain ⟨b, off, rfl, hlb, hcl⟩ := hB4 (by omega)
          obtain ⟨c1, c2⟩ := hcl (L.length - 1) (by omega)
          clear hcl hB3
          go_wp2_with fail
          have q6 : ((L.length : Int) - 1).toNat = L.length - 1 := by omega
          have q7 : IntKind.i64.wrap (lastLeave T + Y L (L.length - 1)) = lastLeave T + Y L (L.length - 1) := IntWalk.i64_in _ (by omega)
          have q8 : IntKind.i64.wrap ((L.length : Int) - 1) = (L.length : Int) - 1 := IntWalk.i64_in _ (by omega)
          have c3 := WB.cell hlb c1
          have c4 := WB.cell hlb c2
          clear c1 c2
          refine wp_region_wb w4.heap.size (by kernel_rfl) (by kernel_rfl) ?_
          repeat (go_big_quiet_step ((go_at_call 20; exact Calls.inB (Nat.le_refl _) (c_iNeedOf L _ d _ (WB.cs _ hB4 (Nat.le_refl _)) (by omega)))))
          refine wpQuiet_nil ?_
          rintro _ ⟨⟨w5, hb5⟩, rfl⟩
          clear q6 q7 q8
          go_wp2_with fail
          go_ret
          exact ⟨rfl, k4.trans (hb5.mono hs4)⟩
    · have hno : cOk L = false := by simpa using hok
      have HN := Lib.hid (lastLeave_no hno)
      clear hok hno
      rw [HN.out]
      go_wp2_with fail
      refine (c_alive _).mono ?_
      rintro e w6 ⟨rfl, hb6⟩
      go_wp2_with fail
      go_ret
      exact ⟨rfl, k3.trans (hb6.mono hs3)⟩
  · go_enter Try.func8, Try.ntmps8
    go_wp2
    go_ret
    exact ⟨rfl, Below.refl _ _⟩

set_option maxHeartbeats 2000000 in
theorem w_FnExactLastLeave (L : List (Int × Int)) (A : Option Addr) (c : Nat) (w : World) (hA : Cs w w.heap.size A L) (hc0 : L.length ≤ 9223372036854775807) :
    Calls Try.prog 14 #[.slice A L.length c] w fun e w' => e = .returned (.bool true) ∧ Below w.heap.size w w' := by
  by_cases hn : L.length ≤ 1048576
  · have hc : L.length ≤ 140737488351232 := by omega
    go_enter Try.func14, Try.ntmps14
    go_wp2_with fail
    refine (c_sz_yes A L.length c _ _ (by omega) (by omega) hc0).mono ?_
    rintro e w1 ⟨rfl, rfl⟩
    go_wp2_with fail
    refine (c_toCustomerS L A c _ hA hn).mono ?_
    rintro e w1 ⟨v1, rfl, o1, hb1⟩
    have hs1 := hb1.size
    obtain ⟨A1, d1, rfl, hd1, hm1, hA1⟩ := o1.form
    clear o1
    go_wp2_with fail
    refine (c_sLastLeave L A1 d1 _ hA1 hc).mono ?_
    rintro e w2 ⟨rfl, hb2⟩
    have h2 := hb1.trans (hb2.mono hs1)
    have hs2 := h2.size
    clear hb1 hb2 hA1
    go_wp2_with fail
    refine (c_toCustomerS L A c _ ((hA.below h2).more hs2) hn).mono ?_
    rintro e w3 ⟨v3, rfl, o3, hb3⟩
    have h3 := h2.trans (hb3.mono hs2)
    have hs3 := h3.size
    obtain ⟨A3, d3, rfl, hd3, hm3, hA3⟩ := o3.form
    clear o3 hb3 h2
    go_wp2_with fail
    refine (c_iLastLeave L A3 d3 _ hA3 hc).mono ?_
    rintro e w4 ⟨rfl, hb4⟩
    have h4 := h3.trans (hb4.mono hs3)
    have hA4 := (hA3.below hb4).more hb4.size
    have hs4 := h4.size
    clear hb4 h3 hA3
    go_wp2_with fail
    refine (c_toCustomerS L A c _ ((hA.below h4).more hs4) hn).mono ?_
    rintro e w5 ⟨v5, rfl, o5, hb5⟩
    have h5 := h4.trans (hb5.mono hs4)
    have hs5 := h5.size
    have hA5 := (hA4.below hb5).more hb5.size
    obtain ⟨B5, d5, rfl, -, -, hB5⟩ := o5.form
    clear o5 hb5 h4 hA4
    go_wp2_with fail
    refine (c_eqCustomerS L A3 B5 d3 d5 _ hA5 hB5 hn).mono ?_
    rintro e w6 ⟨rfl, hb6⟩
    go_wp2_with fail
    go_ret
    exact ⟨rfl, h5.trans (hb6.mono hs5)⟩
  · go_enter Try.func14, Try.ntmps14
    go_wp2_with fail
    refine (c_sz_no A L.length c _ _ (by omega) (by omega) (by omega) hc0).mono ?_
    rintro e w1 ⟨rfl, rfl⟩
    go_wp2_with fail
    go_ret
    exact ⟨rfl, Below.refl _ _⟩

end Go.Proofs.Ytjganggebdpceaa

/- walks of the exact laws of chapter 11 (over the program's contracts) -/
import Derived.Test.YtecoefjkobpbgaaX
import Derived.Test.YtecoefjkobpbgaaX3
import Derived.Test.YtecoefjkobpbgaaKT
import Derived.Test.YtecoefjkobpbgaaH
namespace Go.Proofs.Ytecoefjkobpbgaa
set_option linter.unusedVariables false
open Go.RowKit
attribute [local go_sem ↓] Go.wp_at_zero Go.wp_at_succ


set_option maxHeartbeats 2000000 in
theorem w_FnExactAheadBy (L : List (Int × Int)) (xs : List Int) (A B : Option Addr) (c d : Nat) (t : Int) (u : Int) (w : World) (hA : Cs w w.heap.size A L) (hB : Is w w.heap.size B xs) (hc0 : L.length ≤ 9223372036854775807) (hd0 : xs.length ≤ 9223372036854775807) (ht : -9223372036854775808 ≤ t ∧ t ≤ 9223372036854775807) (hu : -9223372036854775808 ≤ u ∧ u ≤ 9223372036854775807) :
    Calls Try.prog 9 #[.slice A L.length c, .slice B xs.length d, .int .i64 t, .int .i64 u] w fun e w' => e = .returned (.bool true) ∧ Below w.heap.size w w' := by
  by_cases hm : (xs.length : Int) ≤ 1048576
  · by_cases hn : L.length ≤ 1048576
    · have hmn : xs.length ≤ 1048576 := by omega
      go_enter Try.func9, Try.ntmps9
      go_wp2_with fail
      refine (c_sz_yes A L.length c _ _ (by omega) (by omega) hc0).mono ?_
      rintro e w1 ⟨rfl, rfl⟩
      go_wp2_with fail
      refine (c_toCustomerS L A c _ hA hn).mono ?_
      rintro e w1 ⟨v1, rfl, o1, hb1⟩
      have hs1 := hb1.size
      have hB1 := (hB.below hb1).more hs1
      obtain ⟨A1, d1, rfl, -, -, hA1⟩ := o1.form
      clear o1
      go_wp2_with fail
      refine (c_toIntS xs B d _ hB1 hmn).mono ?_
      rintro e w2 ⟨v2, rfl, o2, hb2⟩
      have h2 := hb1.trans (hb2.mono hs1)
      have hs2 := h2.size
      have hA2 := (hA1.below hb2).more hb2.size
      obtain ⟨B2, d2, rfl, -, -, hB2⟩ := o2.form
      clear hb1 hb2 hA1 o2 hB1
      go_wp2_with fail
      refine (c_sAheadBy L xs A1 B2 d1 d2 t u _ hA2 hB2 (by omega) (by omega)).mono ?_
      rintro e w3 ⟨rfl, hb3⟩
      have h3 := h2.trans (hb3.mono hs2)
      have hs3 := h3.size
      clear hb3 h2 hA2 hB2
      go_wp2_with fail
      refine (c_toCustomerS L A c _ ((hA.below h3).more hs3) hn).mono ?_
      rintro e w4 ⟨v4, rfl, o4, hb4⟩
      have h4 := h3.trans (hb4.mono hs3)
      have hs4 := h4.size
      obtain ⟨A4, d4, rfl, hc4, -, hA4⟩ := o4.form
      clear hb4 h3 o4
      go_wp2_with fail
      refine (c_toIntS xs B d _ ((hB.below h4).more hs4) hmn).mono ?_
      rintro e w5 ⟨v5, rfl, o5, hb5⟩
      have h5 := h4.trans (hb5.mono hs4)
      have hs5 := h5.size
      have hA5 := (hA4.below hb5).more hb5.size
      obtain ⟨B5, d5, rfl, hc5, -, hB5⟩ := o5.form
      clear hb5 h4 hA4 o5
      go_wp2_with fail
      refine (c_iAheadBy L xs A4 B5 d4 d5 t u _ hA5 hB5 hc4 hc5 (by omega) (by omega)).mono ?_
      rintro e w6 ⟨rfl, hb6⟩
      have h6 := h5.trans (hb6.mono hs5)
      have hs6 := h6.size
      have hA6 := (hA5.below hb6).more hb6.size
      have hB6 := (hB5.below hb6).more hb6.size
      clear hb6 h5 hA5 hB5
      go_wp2_with fail
      refine (c_toCustomerS L A c _ ((hA.below h6).more hs6) hn).mono ?_
      rintro e w7 ⟨v7, rfl, o7, hb7⟩
      have h7 := h6.trans (hb7.mono hs6)
      have hs7 := h7.size
      have hA7 := (hA6.below hb7).more hb7.size
      have hB7 := (hB6.below hb7).more hb7.size
      obtain ⟨C7, d7, rfl, -, -, hC7⟩ := o7.form
      clear hb7 h6 hA6 hB6 o7
      go_wp2_with fail
      refine (c_eqCustomerS L A4 C7 d4 d7 _ hA7 hC7 hn).mono ?_
      rintro e w8 ⟨rfl, hb8⟩
      have h8 := h7.trans (hb8.mono hs7)
      have hs8 := h8.size
      have hB8 := (hB7.below hb8).more hb8.size
      clear hb8 h7 hA7 hC7 hB7
      go_wp2_with fail
      refine (c_toIntS xs B d _ ((hB.below h8).more hs8) hmn).mono ?_
      rintro e w9 ⟨v9, rfl, o9, hb9⟩
      have h9 := h8.trans (hb9.mono hs8)
      have hs9 := h9.size
      have hB9 := (hB8.below hb9).more hb9.size
      obtain ⟨E9, d9, rfl, -, -, hE9⟩ := o9.form
      clear hb9 h8 hB8 o9
      go_wp2_with fail
      refine (c_eqIntS xs B5 E9 _ _ d5 d9 _ hB9 hE9 (by omega)).mono ?_
      rintro e wa ⟨rfl, hba⟩
      go_wp2_with fail
      go_ret
      exact ⟨rfl, h9.trans (hba.mono hs9)⟩
    · have hmn : xs.length ≤ 1048576 := by omega
      go_enter Try.func9, Try.ntmps9
      go_wp2_with fail
      refine (c_sz_no A L.length c _ _ (by omega) (by omega) (by omega) hc0).mono ?_
      rintro e w1 ⟨rfl, rfl⟩
      go_wp2_with fail
      go_ret
      exact ⟨rfl, Below.refl _ _⟩
  · have hm' : (1048576 : Int) < (xs.length : Int) := by omega
    go_enter Try.func9, Try.ntmps9
    go_wp2_with fail
    go_ret
    exact ⟨rfl, Below.refl _ _⟩




set_option maxHeartbeats 2000000 in
theorem w_FnExactUnitsIn (L : List (Int × Int)) (xs : List Int) (A B : Option Addr) (c d : Nat) (t : Int) (u : Int) (s : Int) (w : World) (hA : Cs w w.heap.size A L) (hB : Is w w.heap.size B xs) (hc0 : L.length ≤ 9223372036854775807) (hd0 : xs.length ≤ 9223372036854775807) (ht : -9223372036854775808 ≤ t ∧ t ≤ 9223372036854775807) (hu : -9223372036854775808 ≤ u ∧ u ≤ 9223372036854775807) (hs : -9223372036854775808 ≤ s ∧ s ≤ 9223372036854775807) :
    Calls Try.prog 8 #[.slice A L.length c, .slice B xs.length d, .int .i64 t, .int .i64 u, .int .i64 s] w fun e w' => e = .returned (.bool true) ∧ Below w.heap.size w w' := by
  by_cases hm : (xs.length : Int) ≤ 1048576
  · by_cases hn : L.length ≤ 1048576
    · have hmn : xs.length ≤ 1048576 := by omega
      go_enter Try.func8, Try.ntmps8
      go_wp2_with fail
      refine (c_sz_yes A L.length c _ _ (by omega) (by omega) hc0).mono ?_
      rintro e w1 ⟨rfl, rfl⟩
      go_wp2_with fail
      refine (c_toCustomerS L A c _ hA hn).mono ?_
      rintro e w1 ⟨v1, rfl, o1, hb1⟩
      have hs1 := hb1.size
      have hB1 := (hB.below hb1).more hs1
      obtain ⟨A1, d1, rfl, -, -, hA1⟩ := o1.form
      clear o1
      go_wp2_with fail
      refine (c_toIntS xs B d _ hB1 hmn).mono ?_
      rintro e w2 ⟨v2, rfl, o2, hb2⟩
      have h2 := hb1.trans (hb2.mono hs1)
      have hs2 := h2.size
      have hA2 := (hA1.below hb2).more hb2.size
      obtain ⟨B2, d2, rfl, -, -, hB2⟩ := o2.form
      clear hb1 hb2 hA1 o2 hB1
      go_wp2_with fail
      refine (c_sUnitsIn L xs A1 B2 d1 d2 t u s _ hA2 hB2 (by omega) (by omega)).mono ?_
      rintro e w3 ⟨rfl, hb3⟩
      have h3 := h2.trans (hb3.mono hs2)
      have hs3 := h3.size
      clear hb3 h2 hA2 hB2
      go_wp2_with fail
      refine (c_toCustomerS L A c _ ((hA.below h3).more hs3) hn).mono ?_
      rintro e w4 ⟨v4, rfl, o4, hb4⟩
      have h4 := h3.trans (hb4.mono hs3)
      have hs4 := h4.size
      obtain ⟨A4, d4, rfl, hc4, -, hA4⟩ := o4.form
      clear hb4 h3 o4
      go_wp2_with fail
      refine (c_toIntS xs B d _ ((hB.below h4).more hs4) hmn).mono ?_
      rintro e w5 ⟨v5, rfl, o5, hb5⟩
      have h5 := h4.trans (hb5.mono hs4)
      have hs5 := h5.size
      have hA5 := (hA4.below hb5).more hb5.size
      obtain ⟨B5, d5, rfl, hc5, -, hB5⟩ := o5.form
      clear hb5 h4 hA4 o5
      go_wp2_with fail
      refine (c_iUnitsIn L xs A4 B5 d4 d5 t u s _ hA5 hB5 hc4 hc5 (by omega) (by omega)).mono ?_
      rintro e w6 ⟨rfl, hb6⟩
      have h6 := h5.trans (hb6.mono hs5)
      have hs6 := h6.size
      have hA6 := (hA5.below hb6).more hb6.size
      have hB6 := (hB5.below hb6).more hb6.size
      clear hb6 h5 hA5 hB5
      go_wp2_with fail
      refine (c_toCustomerS L A c _ ((hA.below h6).more hs6) hn).mono ?_
      rintro e w7 ⟨v7, rfl, o7, hb7⟩
      have h7 := h6.trans (hb7.mono hs6)
      have hs7 := h7.size
      have hA7 := (hA6.below hb7).more hb7.size
      have hB7 := (hB6.below hb7).more hb7.size
      obtain ⟨C7, d7, rfl, -, -, hC7⟩ := o7.form
      clear hb7 h6 hA6 hB6 o7
      go_wp2_with fail
      refine (c_eqCustomerS L A4 C7 d4 d7 _ hA7 hC7 hn).mono ?_
      rintro e w8 ⟨rfl, hb8⟩
      have h8 := h7.trans (hb8.mono hs7)
      have hs8 := h8.size
      have hB8 := (hB7.below hb8).more hb8.size
      clear hb8 h7 hA7 hC7 hB7
      go_wp2_with fail
      refine (c_toIntS xs B d _ ((hB.below h8).more hs8) hmn).mono ?_
      rintro e w9 ⟨v9, rfl, o9, hb9⟩
      have h9 := h8.trans (hb9.mono hs8)
      have hs9 := h9.size
      have hB9 := (hB8.below hb9).more hb9.size
      obtain ⟨E9, d9, rfl, -, -, hE9⟩ := o9.form
      clear hb9 h8 hB8 o9
      go_wp2_with fail
      refine (c_eqIntS xs B5 E9 _ _ d5 d9 _ hB9 hE9 (by omega)).mono ?_
      rintro e wa ⟨rfl, hba⟩
      go_wp2_with fail
      go_ret
      exact ⟨rfl, h9.trans (hba.mono hs9)⟩
    · have hmn : xs.length ≤ 1048576 := by omega
      go_enter Try.func8, Try.ntmps8
      go_wp2_with fail
      refine (c_sz_no A L.length c _ _ (by omega) (by omega) (by omega) hc0).mono ?_
      rintro e w1 ⟨rfl, rfl⟩
      go_wp2_with fail
      go_ret
      exact ⟨rfl, Below.refl _ _⟩
  · have hm' : (1048576 : Int) < (xs.length : Int) := by omega
    go_enter Try.func8, Try.ntmps8
    go_wp2_with fail
    go_ret
    exact ⟨rfl, Below.refl _ _⟩



theorem roundR_len' (L : List (Int × Int)) : (roundR L).length ≤ 1048576 := by have := roundR_len L; omega
theorem roundE_len' (L : List (Int × Int)) : (ends L (roundR L)).length ≤ 1048576 := by
  cases h : ordOk L (roundR L) with
  | true =>
    have h1 := (ordOk_parts h).1
    have := cOk_len h1
    rw [ends_yes h, endsL_len]; omega
  | false => simp [ends, h]

set_option maxHeartbeats 4000000 in
theorem wR_FnExactRoundOrder (L : List (Int × Int)) (A : Option Addr) (c : Nat) (w : World) (hA : Cs w w.heap.size A L) (hc0 : L.length ≤ 9223372036854775807) (hR : ((roundR L)).length ≤ 1048576) :
    Calls Try.prog 7 #[.slice A L.length c] w fun e w' => e = .returned (.bool true) ∧ Below w.heap.size w w' := by
  by_cases hn : L.length ≤ 1048576
  · have hc : L.length ≤ 140737488351232 := by omega
    have hR2 : ((roundR L)).length ≤ 140737488351232 := by omega
    have hml := marksI_len ((roundR L)).length 1
    have Hml := Lib.hid hml; clear hml
    go_enter Try.func7, Try.ntmps7
    go_wp2_with fail
    refine (c_sz_yes A L.length c _ _ (by omega) (by omega) hc0).mono ?_
    rintro e w1 ⟨rfl, rfl⟩
    go_wp2_with fail
    refine (c_toCustomerS L A c _ hA hn).mono ?_
    rintro e w1 ⟨v1, rfl, o1, hb1⟩
    have hs1 := hb1.size
    obtain ⟨A1, d1, rfl, hd1, hm1, hA1⟩ := o1.form
    clear o1
    go_wp2_with fail
    refine (c_sRoundOrder L A1 d1 _ hA1 (by omega)).mono ?_
    rintro e w2 ⟨v0, rfl, o0, hb2⟩
    have h2 := hb1.trans (hb2.mono hs1)
    have hs2 := h2.size
    obtain ⟨B0, d0, rfl, -, -, hI0⟩ := o0.form
    clear hb1 hb2 hA1 o0
    go_wp2_with fail
    refine (c_toCustomerS L A c _ ((hA.below h2).more hs2) hn).mono ?_
    rintro e w3 ⟨v3, rfl, o3, hb3⟩
    have h3 := h2.trans (hb3.mono hs2)
    have hI3 := hI0.below hb3
    have hs3 := h3.size
    have hs23 := hb3.size
    obtain ⟨A3, d3, rfl, hd3, hm3, hA3⟩ := o3.form
    have lt3 := owns_lt o3
    clear hb3 h2 hI0
    go_wp2_with fail
    refine (c_iRoundOrder L A3 d3 _ hA3 hd3 hc).mono ?_
    rintro e w4 ⟨v4, rfl, o4, hb4⟩
    have h4 := h3.trans (hb4.mono hs3)
    have hI4 := hI3.below (hb4.mono hs23)
    have o34 := o3.below hb4 (Nat.le_refl _)
    have hA4 := (hA3.below hb4).more hb4.size
    have hs4 := h4.size
    have hs34 := hb4.size
    obtain ⟨B4, d4, rfl, -, -, hJ4⟩ := o4.form
    clear hb4 h3 hA3 o3 hI3
    go_wp2_with fail
    refine (c_eqIntS (roundR L) B4 B0 _ _ d4 d0 _ hJ4 (hI4.more (by omega)) hR2).mono ?_
    rintro e w5 ⟨rfl, hb5⟩
    have h5 := h4.trans (hb5.mono hs4)
    have hI5 := hI4.below (hb5.mono (by omega))
    have o45 := o4.below hb5 (Nat.le_refl _)
    have o35 := o34.below hb5 (Nat.le_refl _)
    have hA5 := (hA4.below hb5).more hb5.size
    have hs5 := h5.size
    have hs45 := hb5.size
    clear hb5 h4 hA4 o34 o4 hI4 hJ4
    go_wp2_with fail
    refine (c_toCustomerS L A c _ ((hA.below h5).more hs5) hn).mono ?_
    rintro e w6 ⟨v6, rfl, o6, hb6⟩
    have h6 := h5.trans (hb6.mono hs5)
    have hI6 := hI5.below (hb6.mono (by omega))
    have o46 := o45.below hb6 (Nat.le_refl _)
    have o36 := o35.below hb6 (Nat.le_refl _)
    have hA6 := (hA5.below hb6).more hb6.size
    have hs6 := h6.size
    have hs56 := hb6.size
    obtain ⟨B6, d6, rfl, -, -, hB6⟩ := o6.form
    clear hb6 h5 hA5 o35 o45 hI5 o6
    go_wp2_with fail
    refine (c_eqCustomerS L A3 B6 d3 d6 _ hA6 hB6 hn).mono ?_
    rintro e w7 ⟨rfl, hb7⟩
    have h7 := h6.trans (hb7.mono hs6)
    have hI7 := hI6.below (hb7.mono (by omega))
    have o47 := o46.below hb7 (Nat.le_refl _)
    have o37 := o36.below hb7 (Nat.le_refl _)
    have hs7 := h7.size
    have hs67 := hb7.size
    clear hb7 h6 hA6 o36 o46 hI6 hB6
    go_wp2_with fail
    refine (c_markCustomerS L 1 _ w2.heap.size _ o37 hn (by omega) (by omega)).mono ?_
    rintro e w8 ⟨rfl, o38, hg8⟩
    have hb8 : Below w2.heap.size w7 w8 := (Below.refl _ _).grown hg8 (by omega) (owns_base o37)
    have h8 := h7.trans (hb8.mono hs2)
    have hI8 := hI7.below hb8
    have o48 := o47.grownR hg8 lt3
    have hs8 := h8.size
    have hs78 := hb8.size
    clear hb8 h7 o37 o47 hI7 hg8 o38
    have hJ8 := o48.isOf.2
    have hk8 : (0 : Int) ≤ 1 + 2 * (L.length : Int) := by omega
    go_wp2_with fail
    refine (c_eqIntS (roundR L) _ B0 _ _ _ d0 _ hJ8 (hI8.more (by omega)) hR2).mono ?_
    rintro e w9 ⟨rfl, hb9⟩
    have h9 := h8.trans (hb9.mono hs8)
    have hI9 := hI8.below (hb9.mono (by omega))
    have o49 := o48.below hb9 (Nat.le_refl _)
    have hs9 := h9.size
    have hs89 := hb9.size
    clear hb9 h8 o48 hI8 hJ8
    go_wp2_with fail
    refine (c_markIntS ((roundR L)) 1 _ w3.heap.size _ o49 hR (by omega) (by omega)).mono ?_
    rintro e w10 ⟨rfl, o410, hg10⟩
    have hb10 : Below w3.heap.size w9 w10 := (Below.refl _ _).grown hg10 (by omega) (owns_base o49)
    have h10 := h9.trans (hb10.mono hs3)
    have hI10 := hI9.below (hb10.mono (by omega))
    have hs10 := h10.size
    have hs910 := hb10.size
    clear hb10 h9 o49 hI9 hg10
    have hJ10 := o410.isOf.2
    have hq0 : (0 : Int) ≤ 1 + (((roundR L)).length : Int) := by omega
    go_wp2_with fail
    refine (c_heldIntS ((roundR L)).length 1 _ _ _ _ hJ10 hR (by omega) (by omega)).mono ?_
    rintro e w10 ⟨rfl, rfl⟩
    go_wp2_with fail
    refine (c_toCustomerS L A c _ ((hA.below h10).more hs10) hn).mono ?_
    rintro e w11 ⟨v11, rfl, o11, hb11⟩
    have h11 := h10.trans (hb11.mono hs10)
    have hI11 := hI10.below (hb11.mono (by omega))
    have hJ11 := hJ10.below hb11
    have hs11 := h11.size
    have hs1011 := hb11.size
    obtain ⟨A11, d11, rfl, hd11, -, hA11⟩ := o11.form
    clear hb11 h10 hJ10 hI10 o11 o410
    go_wp2_with fail
    refine (c_iRoundOrder L A11 d11 _ hA11 hd11 hc).mono ?_
    rintro e w12 ⟨v12, rfl, o12, hb12⟩
    have h12 := h11.trans (hb12.mono hs11)
    have hI12 := hI11.below (hb12.mono (by omega))
    have hJ12 := hJ11.below (hb12.mono (by omega))
    have hs12 := h12.size
    have hs1112 := hb12.size
    obtain ⟨B12, d12, rfl, -, -, hJ12'⟩ := o12.form
    clear hb12 h11 hJ11 hI11 o12 hA11
    go_wp2_with fail
    refine (c_eqIntS (roundR L) B12 B0 _ _ d12 d0 _ hJ12' (hI12.more (by omega)) hR2).mono ?_
    rintro e w13 ⟨rfl, hb13⟩
    have h13 := h12.trans (hb13.mono hs12)
    have hJ13 := hJ12.below (hb13.mono (by omega))
    clear hb13 h12 hJ12 hI12 hJ12'
    go_wp2_with fail
    refine (c_heldIntS ((roundR L)).length 1 _ _ _ _ hJ13 hR (by omega) (by omega)).mono ?_
    rintro e w14 ⟨rfl, rfl⟩
    go_wp2_with fail
    go_ret
    exact ⟨rfl, h13⟩
  · go_enter Try.func7, Try.ntmps7
    go_wp2_with fail
    refine (c_sz_no A L.length c _ _ (by omega) (by omega) (by omega) hc0).mono ?_
    rintro e w1 ⟨rfl, rfl⟩
    go_wp2_with fail
    go_ret
    exact ⟨rfl, Below.refl _ _⟩
theorem w_FnExactRoundOrder (L : List (Int × Int)) (A : Option Addr) (c : Nat) (w : World) (hA : Cs w w.heap.size A L) (hc0 : L.length ≤ 9223372036854775807) :
    Calls Try.prog 7 #[.slice A L.length c] w fun e w' => e = .returned (.bool true) ∧ Below w.heap.size w w' :=
  wR_FnExactRoundOrder L A c w hA hc0 (roundR_len' L)



theorem c_sRoundEnds' (L : List (Int × Int)) (A : Option Addr) (c : Nat) (w : World) (hA : Cs w w.heap.size A L) (hn : L.length ≤ 1048576) :
    Calls Try.prog 26 #[.slice A L.length c] w fun e w' => ∃ v, e = .returned v ∧ IO w' w.heap.size v (ends L (roundR L)) ∧ Below w.heap.size w w' := c_sRoundEnds L A c w hA (by omega)

set_option maxHeartbeats 4000000 in
theorem wR_FnExactRoundEnds (L : List (Int × Int)) (A : Option Addr) (c : Nat) (w : World) (hA : Cs w w.heap.size A L) (hc0 : L.length ≤ 9223372036854775807) (hR : ((ends L (roundR L))).length ≤ 1048576) :
    Calls Try.prog 10 #[.slice A L.length c] w fun e w' => e = .returned (.bool true) ∧ Below w.heap.size w w' := by
  by_cases hn : L.length ≤ 1048576
  · have hc : L.length ≤ 140737488351232 := by omega
    have hR2 : ((ends L (roundR L))).length ≤ 140737488351232 := by omega
    have hml := marksI_len ((ends L (roundR L))).length 1
    have Hml := Lib.hid hml; clear hml
    go_enter Try.func10, Try.ntmps10
    go_wp2_with fail
    refine (c_sz_yes A L.length c _ _ (by omega) (by omega) hc0).mono ?_
    rintro e w1 ⟨rfl, rfl⟩
    go_wp2_with fail
    refine (c_toCustomerS L A c _ hA hn).mono ?_
    rintro e w1 ⟨v1, rfl, o1, hb1⟩
    have hs1 := hb1.size
    obtain ⟨A1, d1, rfl, hd1, hm1, hA1⟩ := o1.form
    clear o1
    go_wp2_with fail
    refine (c_sRoundEnds' L A1 d1 _ hA1 (by omega)).mono ?_
    rintro e w2 ⟨v0, rfl, o0, hb2⟩
    have h2 := hb1.trans (hb2.mono hs1)
    have hs2 := h2.size
    obtain ⟨B0, d0, rfl, -, -, hI0⟩ := o0.form
    clear hb1 hb2 hA1 o0
    go_wp2_with fail
    refine (c_toCustomerS L A c _ ((hA.below h2).more hs2) hn).mono ?_
    rintro e w3 ⟨v3, rfl, o3, hb3⟩
    have h3 := h2.trans (hb3.mono hs2)
    have hI3 := hI0.below hb3
    have hs3 := h3.size
    have hs23 := hb3.size
    obtain ⟨A3, d3, rfl, hd3, hm3, hA3⟩ := o3.form
    have lt3 := owns_lt o3
    clear hb3 h2 hI0
    go_wp2_with fail
    refine (c_iRoundEnds L A3 d3 _ hA3 hd3 hc).mono ?_
    rintro e w4 ⟨v4, rfl, o4, hb4⟩
    have h4 := h3.trans (hb4.mono hs3)
    have hI4 := hI3.below (hb4.mono hs23)
    have o34 := o3.below hb4 (Nat.le_refl _)
    have hA4 := (hA3.below hb4).more hb4.size
    have hs4 := h4.size
    have hs34 := hb4.size
    obtain ⟨B4, d4, rfl, -, -, hJ4⟩ := o4.form
    clear hb4 h3 hA3 o3 hI3
    go_wp2_with fail
    refine (c_eqIntS (ends L (roundR L)) B4 B0 _ _ d4 d0 _ hJ4 (hI4.more (by omega)) hR2).mono ?_
    rintro e w5 ⟨rfl, hb5⟩
    have h5 := h4.trans (hb5.mono hs4)
    have hI5 := hI4.below (hb5.mono (by omega))
    have o45 := o4.below hb5 (Nat.le_refl _)
    have o35 := o34.below hb5 (Nat.le_refl _)
    have hA5 := (hA4.below hb5).more hb5.size
    have hs5 := h5.size
    have hs45 := hb5.size
    clear hb5 h4 hA4 o34 o4 hI4 hJ4
    go_wp2_with fail
    refine (c_toCustomerS L A c _ ((hA.below h5).more hs5) hn).mono ?_
    rintro e w6 ⟨v6, rfl, o6, hb6⟩
    have h6 := h5.trans (hb6.mono hs5)
    have hI6 := hI5.below (hb6.mono (by omega))
    have o46 := o45.below hb6 (Nat.le_refl _)
    have o36 := o35.below hb6 (Nat.le_refl _)
    have hA6 := (hA5.below hb6).more hb6.size
    have hs6 := h6.size
    have hs56 := hb6.size
    obtain ⟨B6, d6, rfl, -, -, hB6⟩ := o6.form
    clear hb6 h5 hA5 o35 o45 hI5 o6
    go_wp2_with fail
    refine (c_eqCustomerS L A3 B6 d3 d6 _ hA6 hB6 hn).mono ?_
    rintro e w7 ⟨rfl, hb7⟩
    have h7 := h6.trans (hb7.mono hs6)
    have hI7 := hI6.below (hb7.mono (by omega))
    have o47 := o46.below hb7 (Nat.le_refl _)
    have o37 := o36.below hb7 (Nat.le_refl _)
    have hs7 := h7.size
    have hs67 := hb7.size
    clear hb7 h6 hA6 o36 o46 hI6 hB6
    go_wp2_with fail
    refine (c_markCustomerS L 1 _ w2.heap.size _ o37 hn (by omega) (by omega)).mono ?_
    rintro e w8 ⟨rfl, o38, hg8⟩
    have hb8 : Below w2.heap.size w7 w8 := (Below.refl _ _).grown hg8 (by omega) (owns_base o37)
    have h8 := h7.trans (hb8.mono hs2)
    have hI8 := hI7.below hb8
    have o48 := o47.grownR hg8 lt3
    have hs8 := h8.size
    have hs78 := hb8.size
    clear hb8 h7 o37 o47 hI7 hg8 o38
    have hJ8 := o48.isOf.2
    have hk8 : (0 : Int) ≤ 1 + 2 * (L.length : Int) := by omega
    go_wp2_with fail
    refine (c_eqIntS (ends L (roundR L)) _ B0 _ _ _ d0 _ hJ8 (hI8.more (by omega)) hR2).mono ?_
    rintro e w9 ⟨rfl, hb9⟩
    have h9 := h8.trans (hb9.mono hs8)
    have hI9 := hI8.below (hb9.mono (by omega))
    have o49 := o48.below hb9 (Nat.le_refl _)
    have hs9 := h9.size
    have hs89 := hb9.size
    clear hb9 h8 o48 hI8 hJ8
    go_wp2_with fail
    refine (c_markIntS ((ends L (roundR L))) 1 _ w3.heap.size _ o49 hR (by omega) (by omega)).mono ?_
    rintro e w10 ⟨rfl, o410, hg10⟩
    have hb10 : Below w3.heap.size w9 w10 := (Below.refl _ _).grown hg10 (by omega) (owns_base o49)
    have h10 := h9.trans (hb10.mono hs3)
    have hI10 := hI9.below (hb10.mono (by omega))
    have hs10 := h10.size
    have hs910 := hb10.size
    clear hb10 h9 o49 hI9 hg10
    have hJ10 := o410.isOf.2
    have hq0 : (0 : Int) ≤ 1 + (((ends L (roundR L))).length : Int) := by omega
    go_wp2_with fail
    refine (c_heldIntS ((ends L (roundR L))).length 1 _ _ _ _ hJ10 hR (by omega) (by omega)).mono ?_
    rintro e w10 ⟨rfl, rfl⟩
    go_wp2_with fail
    refine (c_toCustomerS L A c _ ((hA.below h10).more hs10) hn).mono ?_
    rintro e w11 ⟨v11, rfl, o11, hb11⟩
    have h11 := h10.trans (hb11.mono hs10)
    have hI11 := hI10.below (hb11.mono (by omega))
    have hJ11 := hJ10.below hb11
    have hs11 := h11.size
    have hs1011 := hb11.size
    obtain ⟨A11, d11, rfl, hd11, -, hA11⟩ := o11.form
    clear hb11 h10 hJ10 hI10 o11 o410
    go_wp2_with fail
    refine (c_iRoundEnds L A11 d11 _ hA11 hd11 hc).mono ?_
    rintro e w12 ⟨v12, rfl, o12, hb12⟩
    have h12 := h11.trans (hb12.mono hs11)
    have hI12 := hI11.below (hb12.mono (by omega))
    have hJ12 := hJ11.below (hb12.mono (by omega))
    have hs12 := h12.size
    have hs1112 := hb12.size
    obtain ⟨B12, d12, rfl, -, -, hJ12'⟩ := o12.form
    clear hb12 h11 hJ11 hI11 o12 hA11
    go_wp2_with fail
    refine (c_eqIntS (ends L (roundR L)) B12 B0 _ _ d12 d0 _ hJ12' (hI12.more (by omega)) hR2).mono ?_
    rintro e w13 ⟨rfl, hb13⟩
    have h13 := h12.trans (hb13.mono hs12)
    have hJ13 := hJ12.below (hb13.mono (by omega))
    clear hb13 h12 hJ12 hI12 hJ12'
    go_wp2_with fail
    refine (c_heldIntS ((ends L (roundR L))).length 1 _ _ _ _ hJ13 hR (by omega) (by omega)).mono ?_
    rintro e w14 ⟨rfl, rfl⟩
    go_wp2_with fail
    go_ret
    exact ⟨rfl, h13⟩
  · go_enter Try.func10, Try.ntmps10
    go_wp2_with fail
    refine (c_sz_no A L.length c _ _ (by omega) (by omega) (by omega) hc0).mono ?_
    rintro e w1 ⟨rfl, rfl⟩
    go_wp2_with fail
    go_ret
    exact ⟨rfl, Below.refl _ _⟩
theorem w_FnExactRoundEnds (L : List (Int × Int)) (A : Option Addr) (c : Nat) (w : World) (hA : Cs w w.heap.size A L) (hc0 : L.length ≤ 9223372036854775807) :
    Calls Try.prog 10 #[.slice A L.length c] w fun e w' => e = .returned (.bool true) ∧ Below w.heap.size w w' :=
  wR_FnExactRoundEnds L A c w hA hc0 (roundE_len' L)



end Go.Proofs.Ytecoefjkobpbgaa


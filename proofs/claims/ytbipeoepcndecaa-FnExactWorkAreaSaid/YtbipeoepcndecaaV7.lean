/- walks of the exact laws of chapter 6 (over the program's contracts) -/
import Derived.Test.YtbipeoepcndecaaV1
import Derived.Test.YtbipeoepcndecaaKM
import Derived.Test.YtbipeoepcndecaaX3
namespace Go.Proofs.Ytbipeoepcndecaa
set_option linter.unusedVariables false
open Go.RowKit


set_option maxHeartbeats 2000000 in
theorem w_FnExactAreaOf (L : List (Int × Int)) (xs : List Int) (A B : Option Addr) (c d : Nat) (w : World) (hA : Cs w w.heap.size A L) (hB : Is w w.heap.size B xs) (hc0 : L.length ≤ 9223372036854775807) (hd0 : xs.length ≤ 9223372036854775807) :
    Calls Try.prog 7 #[.slice A L.length c, .slice B xs.length d] w fun e w' => e = .returned (.bool true) ∧ Below w.heap.size w w' := by
  by_cases hm : (xs.length : Int) ≤ 1048576
  · by_cases hn : L.length ≤ 1048576
    · have hmn : xs.length ≤ 1048576 := by omega
      go_enter Try.func7, Try.ntmps7
      go_wp2_with fail
      refine (c_sz_yes A L.length c _ _ (by omega) (by omega) hc0).mono ?_
      rintro e w1 ⟨rfl, rfl⟩
      go_wp2_with fail
      refine (c_toCustomerS L A c _ hA hn).mono ?_
      rintro e w1 ⟨v1, rfl, o1, hb1⟩
      have hs1 := hb1.size
      have hB1 := (hB.below hb1).more hs1
      obtain ⟨A1, d1, rfl, -, -, hA1⟩ := o1.form
      clear o1
      go_wp2_with fail
      refine (c_toIntS xs B d _ hB1 hmn).mono ?_
      rintro e w2 ⟨v2, rfl, o2, hb2⟩
      have h2 := hb1.trans (hb2.mono hs1)
      have hs2 := h2.size
      have hA2 := (hA1.below hb2).more hb2.size
      obtain ⟨B2, d2, rfl, -, -, hB2⟩ := o2.form
      clear hb1 hb2 hA1 o2 hB1
      go_wp2_with fail
      refine (c_sAreaOf L xs A1 B2 d1 d2 _ hA2 hB2 (by omega) (by omega)).mono ?_
      rintro e w3 ⟨rfl, hb3⟩
      have h3 := h2.trans (hb3.mono hs2)
      have hs3 := h3.size
      clear hb3 h2 hA2 hB2
      go_wp2_with fail
      refine (c_toCustomerS L A c _ ((hA.below h3).more hs3) hn).mono ?_
      rintro e w4 ⟨v4, rfl, o4, hb4⟩
      have h4 := h3.trans (hb4.mono hs3)
      have hs4 := h4.size
      obtain ⟨A4, d4, rfl, -, -, hA4⟩ := o4.form
      clear hb4 h3 o4
      go_wp2_with fail
      refine (c_toIntS xs B d _ ((hB.below h4).more hs4) hmn).mono ?_
      rintro e w5 ⟨v5, rfl, o5, hb5⟩
      have h5 := h4.trans (hb5.mono hs4)
      have hs5 := h5.size
      have hA5 := (hA4.below hb5).more hb5.size
      obtain ⟨B5, d5, rfl, -, -, hB5⟩ := o5.form
      clear hb5 h4 hA4 o5
      go_wp2_with fail
      refine (c_iAreaOf L xs A4 B5 d4 d5 _ hA5 hB5 (by omega) (by omega)).mono ?_
      rintro e w6 ⟨rfl, hb6⟩
      have h6 := h5.trans (hb6.mono hs5)
      have hs6 := h6.size
      have hA6 := (hA5.below hb6).more hb6.size
      have hB6 := (hB5.below hb6).more hb6.size
      clear hb6 h5 hA5 hB5
      go_wp2_with fail
      refine (c_toCustomerS L A c _ ((hA.below h6).more hs6) hn).mono ?_
      rintro e w7 ⟨v7, rfl, o7, hb7⟩
      have h7 := h6.trans (hb7.mono hs6)
      have hs7 := h7.size
      have hA7 := (hA6.below hb7).more hb7.size
      have hB7 := (hB6.below hb7).more hb7.size
      obtain ⟨C7, d7, rfl, -, -, hC7⟩ := o7.form
      clear hb7 h6 hA6 hB6 o7
      go_wp2_with fail
      refine (c_eqCustomerS L A4 C7 d4 d7 _ hA7 hC7 hn).mono ?_
      rintro e w8 ⟨rfl, hb8⟩
      have h8 := h7.trans (hb8.mono hs7)
      have hs8 := h8.size
      have hB8 := (hB7.below hb8).more hb8.size
      clear hb8 h7 hA7 hC7 hB7
      go_wp2_with fail
      refine (c_toIntS xs B d _ ((hB.below h8).more hs8) hmn).mono ?_
      rintro e w9 ⟨v9, rfl, o9, hb9⟩
      have h9 := h8.trans (hb9.mono hs8)
      have hs9 := h9.size
      have hB9 := (hB8.below hb9).more hb9.size
      obtain ⟨E9, d9, rfl, -, -, hE9⟩ := o9.form
      clear hb9 h8 hB8 o9
      go_wp2_with fail
      refine (c_eqIntS xs B5 E9 _ _ d5 d9 _ hB9 hE9 (by omega)).mono ?_
      rintro e wa ⟨rfl, hba⟩
      go_wp2_with fail
      go_ret
      exact ⟨rfl, h9.trans (hba.mono hs9)⟩
    · have hmn : xs.length ≤ 1048576 := by omega
      go_enter Try.func7, Try.ntmps7
      go_wp2_with fail
      refine (c_sz_no A L.length c _ _ (by omega) (by omega) (by omega) hc0).mono ?_
      rintro e w1 ⟨rfl, rfl⟩
      go_wp2_with fail
      go_ret
      exact ⟨rfl, Below.refl _ _⟩
  · have hm' : (1048576 : Int) < (xs.length : Int) := by omega
    go_enter Try.func7, Try.ntmps7
    go_wp2_with fail
    go_ret
    exact ⟨rfl, Below.refl _ _⟩



set_option maxHeartbeats 2000000 in
theorem w_FnExactWaitingArea (L : List (Int × Int)) (xs : List Int) (A B : Option Addr) (c d : Nat) (w : World) (hA : Cs w w.heap.size A L) (hB : Is w w.heap.size B xs) (hc0 : L.length ≤ 9223372036854775807) (hd0 : xs.length ≤ 9223372036854775807) :
    Calls Try.prog 8 #[.slice A L.length c, .slice B xs.length d] w fun e w' => e = .returned (.bool true) ∧ Below w.heap.size w w' := by
  by_cases hm : (xs.length : Int) ≤ 1048576
  · by_cases hn : L.length ≤ 1048576
    · have hmn : xs.length ≤ 1048576 := by omega
      go_enter Try.func8, Try.ntmps8
      go_wp2_with fail
      refine (c_sz_yes A L.length c _ _ (by omega) (by omega) hc0).mono ?_
      rintro e w1 ⟨rfl, rfl⟩
      go_wp2_with fail
      refine (c_toCustomerS L A c _ hA hn).mono ?_
      rintro e w1 ⟨v1, rfl, o1, hb1⟩
      have hs1 := hb1.size
      have hB1 := (hB.below hb1).more hs1
      obtain ⟨A1, d1, rfl, -, -, hA1⟩ := o1.form
      clear o1
      go_wp2_with fail
      refine (c_toIntS xs B d _ hB1 hmn).mono ?_
      rintro e w2 ⟨v2, rfl, o2, hb2⟩
      have h2 := hb1.trans (hb2.mono hs1)
      have hs2 := h2.size
      have hA2 := (hA1.below hb2).more hb2.size
      obtain ⟨B2, d2, rfl, -, -, hB2⟩ := o2.form
      clear hb1 hb2 hA1 o2 hB1
      go_wp2_with fail
      refine (c_sWaitingArea L xs A1 B2 d1 d2 _ hA2 hB2 (by omega) (by omega)).mono ?_
      rintro e w3 ⟨rfl, hb3⟩
      have h3 := h2.trans (hb3.mono hs2)
      have hs3 := h3.size
      clear hb3 h2 hA2 hB2
      go_wp2_with fail
      refine (c_toCustomerS L A c _ ((hA.below h3).more hs3) hn).mono ?_
      rintro e w4 ⟨v4, rfl, o4, hb4⟩
      have h4 := h3.trans (hb4.mono hs3)
      have hs4 := h4.size
      obtain ⟨A4, d4, rfl, -, -, hA4⟩ := o4.form
      clear hb4 h3 o4
      go_wp2_with fail
      refine (c_toIntS xs B d _ ((hB.below h4).more hs4) hmn).mono ?_
      rintro e w5 ⟨v5, rfl, o5, hb5⟩
      have h5 := h4.trans (hb5.mono hs4)
      have hs5 := h5.size
      have hA5 := (hA4.below hb5).more hb5.size
      obtain ⟨B5, d5, rfl, -, -, hB5⟩ := o5.form
      clear hb5 h4 hA4 o5
      go_wp2_with fail
      refine (c_iWaitingArea L xs A4 B5 d4 d5 _ hA5 hB5 (by omega) (by omega)).mono ?_
      rintro e w6 ⟨rfl, hb6⟩
      have h6 := h5.trans (hb6.mono hs5)
      have hs6 := h6.size
      have hA6 := (hA5.below hb6).more hb6.size
      have hB6 := (hB5.below hb6).more hb6.size
      clear hb6 h5 hA5 hB5
      go_wp2_with fail
      refine (c_toCustomerS L A c _ ((hA.below h6).more hs6) hn).mono ?_
      rintro e w7 ⟨v7, rfl, o7, hb7⟩
      have h7 := h6.trans (hb7.mono hs6)
      have hs7 := h7.size
      have hA7 := (hA6.below hb7).more hb7.size
      have hB7 := (hB6.below hb7).more hb7.size
      obtain ⟨C7, d7, rfl, -, -, hC7⟩ := o7.form
      clear hb7 h6 hA6 hB6 o7
      go_wp2_with fail
      refine (c_eqCustomerS L A4 C7 d4 d7 _ hA7 hC7 hn).mono ?_
      rintro e w8 ⟨rfl, hb8⟩
      have h8 := h7.trans (hb8.mono hs7)
      have hs8 := h8.size
      have hB8 := (hB7.below hb8).more hb8.size
      clear hb8 h7 hA7 hC7 hB7
      go_wp2_with fail
      refine (c_toIntS xs B d _ ((hB.below h8).more hs8) hmn).mono ?_
      rintro e w9 ⟨v9, rfl, o9, hb9⟩
      have h9 := h8.trans (hb9.mono hs8)
      have hs9 := h9.size
      have hB9 := (hB8.below hb9).more hb9.size
      obtain ⟨E9, d9, rfl, -, -, hE9⟩ := o9.form
      clear hb9 h8 hB8 o9
      go_wp2_with fail
      refine (c_eqIntS xs B5 E9 _ _ d5 d9 _ hB9 hE9 (by omega)).mono ?_
      rintro e wa ⟨rfl, hba⟩
      go_wp2_with fail
      go_ret
      exact ⟨rfl, h9.trans (hba.mono hs9)⟩
    · have hmn : xs.length ≤ 1048576 := by omega
      go_enter Try.func8, Try.ntmps8
      go_wp2_with fail
      refine (c_sz_no A L.length c _ _ (by omega) (by omega) (by omega) hc0).mono ?_
      rintro e w1 ⟨rfl, rfl⟩
      go_wp2_with fail
      go_ret
      exact ⟨rfl, Below.refl _ _⟩
  · have hm' : (1048576 : Int) < (xs.length : Int) := by omega
    go_enter Try.func8, Try.ntmps8
    go_wp2_with fail
    go_ret
    exact ⟨rfl, Below.refl _ _⟩



set_option maxHeartbeats 2000000 in
theorem w_FnExactWorkArea (L : List (Int × Int)) (A : Option Addr) (c : Nat) (w : World) (hA : Cs w w.heap.size A L) (hc0 : L.length ≤ 9223372036854775807) :
    Calls Try.prog 9 #[.slice A L.length c] w fun e w' => e = .returned (.bool true) ∧ Below w.heap.size w w' := by
  by_cases hn : L.length ≤ 1048576
  · have hc : L.length ≤ 140737488351232 := by omega
    go_enter Try.func9, Try.ntmps9
    go_wp2_with fail
    refine (c_sz_yes A L.length c _ _ (by omega) (by omega) hc0).mono ?_
    rintro e w1 ⟨rfl, rfl⟩
    go_wp2_with fail
    refine (c_toCustomerS L A c _ hA hn).mono ?_
    rintro e w1 ⟨v1, rfl, o1, hb1⟩
    have hs1 := hb1.size
    obtain ⟨A1, d1, rfl, hd1, hm1, hA1⟩ := o1.form
    clear o1
    go_wp2_with fail
    refine (c_sWorkArea L A1 d1 _ hA1 hc).mono ?_
    rintro e w2 ⟨rfl, hb2⟩
    have h2 := hb1.trans (hb2.mono hs1)
    have hs2 := h2.size
    clear hb1 hb2 hA1
    go_wp2_with fail
    refine (c_toCustomerS L A c _ ((hA.below h2).more hs2) hn).mono ?_
    rintro e w3 ⟨v3, rfl, o3, hb3⟩
    have h3 := h2.trans (hb3.mono hs2)
    have hs3 := h3.size
    obtain ⟨A3, d3, rfl, hd3, hm3, hA3⟩ := o3.form
    clear o3 hb3 h2
    go_wp2_with fail
    refine (c_iWorkArea L A3 d3 _ hA3 hc).mono ?_
    rintro e w4 ⟨rfl, hb4⟩
    have h4 := h3.trans (hb4.mono hs3)
    have hA4 := (hA3.below hb4).more hb4.size
    have hs4 := h4.size
    clear hb4 h3 hA3
    go_wp2_with fail
    refine (c_toCustomerS L A c _ ((hA.below h4).more hs4) hn).mono ?_
    rintro e w5 ⟨v5, rfl, o5, hb5⟩
    have h5 := h4.trans (hb5.mono hs4)
    have hs5 := h5.size
    have hA5 := (hA4.below hb5).more hb5.size
    obtain ⟨B5, d5, rfl, -, -, hB5⟩ := o5.form
    clear o5 hb5 h4 hA4
    go_wp2_with fail
    refine (c_eqCustomerS L A3 B5 d3 d5 _ hA5 hB5 hn).mono ?_
    rintro e w6 ⟨rfl, hb6⟩
    go_wp2_with fail
    go_ret
    exact ⟨rfl, h5.trans (hb6.mono hs5)⟩
  · go_enter Try.func9, Try.ntmps9
    go_wp2_with fail
    refine (c_sz_no A L.length c _ _ (by omega) (by omega) (by omega) hc0).mono ?_
    rintro e w1 ⟨rfl, rfl⟩
    go_wp2_with fail
    go_ret
    exact ⟨rfl, Below.refl _ _⟩



set_option maxHeartbeats 2000000 in
theorem w_FnExactWorkBy (L : List (Int × Int)) (A : Option Addr) (c : Nat) (w : World) (hA : Cs w w.heap.size A L) (hc0 : L.length ≤ 9223372036854775807) :
    Calls Try.prog 10 #[.slice A L.length c] w fun e w' => e = .returned (.bool true) ∧ Below w.heap.size w w' := by
  by_cases hn : L.length ≤ 1048576
  · have hc : L.length ≤ 140737488351232 := by omega
    go_enter Try.func10, Try.ntmps10
    go_wp2_with fail
    refine (c_sz_yes A L.length c _ _ (by omega) (by omega) hc0).mono ?_
    rintro e w1 ⟨rfl, rfl⟩
    go_wp2_with fail
    refine (c_toCustomerS L A c _ hA hn).mono ?_
    rintro e w1 ⟨v1, rfl, o1, hb1⟩
    have hs1 := hb1.size
    obtain ⟨A1, d1, rfl, hd1, hm1, hA1⟩ := o1.form
    clear o1
    go_wp2_with fail
    refine (c_sWorkBy L A1 d1 _ hA1 hc).mono ?_
    rintro e w2 ⟨rfl, hb2⟩
    have h2 := hb1.trans (hb2.mono hs1)
    have hs2 := h2.size
    clear hb1 hb2 hA1
    go_wp2_with fail
    refine (c_toCustomerS L A c _ ((hA.below h2).more hs2) hn).mono ?_
    rintro e w3 ⟨v3, rfl, o3, hb3⟩
    have h3 := h2.trans (hb3.mono hs2)
    have hs3 := h3.size
    obtain ⟨A3, d3, rfl, hd3, hm3, hA3⟩ := o3.form
    clear o3 hb3 h2
    go_wp2_with fail
    refine (c_iWorkBy L A3 d3 _ hA3 hc).mono ?_
    rintro e w4 ⟨rfl, hb4⟩
    have h4 := h3.trans (hb4.mono hs3)
    have hA4 := (hA3.below hb4).more hb4.size
    have hs4 := h4.size
    clear hb4 h3 hA3
    go_wp2_with fail
    refine (c_toCustomerS L A c _ ((hA.below h4).more hs4) hn).mono ?_
    rintro e w5 ⟨v5, rfl, o5, hb5⟩
    have h5 := h4.trans (hb5.mono hs4)
    have hs5 := h5.size
    have hA5 := (hA4.below hb5).more hb5.size
    obtain ⟨B5, d5, rfl, -, -, hB5⟩ := o5.form
    clear o5 hb5 h4 hA4
    go_wp2_with fail
    refine (c_eqCustomerS L A3 B5 d3 d5 _ hA5 hB5 hn).mono ?_
    rintro e w6 ⟨rfl, hb6⟩
    go_wp2_with fail
    go_ret
    exact ⟨rfl, h5.trans (hb6.mono hs5)⟩
  · go_enter Try.func10, Try.ntmps10
    go_wp2_with fail
    refine (c_sz_no A L.length c _ _ (by omega) (by omega) (by omega) hc0).mono ?_
    rintro e w1 ⟨rfl, rfl⟩
    go_wp2_with fail
    go_ret
    exact ⟨rfl, Below.refl _ _⟩



end Go.Proofs.Ytbipeoepcndecaa


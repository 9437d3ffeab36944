/- walk of the exact law of InOrder (over the program's contract) -/
import Derived.Test.YtofjfhifldafcaaV11
namespace Go.Proofs.Ytofjfhifldafcaa
set_option linter.unusedVariables false
open Go.RowKit
attribute [local go_sem ↓] Go.wp_at_zero Go.wp_at_succ


set_option maxHeartbeats 4000000 in
theorem w_FnExactInOrder (L : List (Int × Int)) (xs : List Int) (A B : Option Addr) (c d : Nat) (w : World) (hA : Cs w w.heap.size A L) (hB : Is w w.heap.size B xs) (hc0 : L.length ≤ 9223372036854775807) (hd0 : xs.length ≤ 9223372036854775807) :
    Calls Try.prog 14 #[.slice A L.length c, .slice B xs.length d] w fun e w' => e = .returned (.bool true) ∧ Below w.heap.size w w' := by
  have hR : ((inV L xs)).length ≤ 1048576 := inV_len' L xs
  by_cases hm : (xs.length : Int) ≤ 1048576
  · by_cases hn : L.length ≤ 1048576
    · have hmn : xs.length ≤ 1048576 := by omega
      have hml := marks_len ((inV L xs)).length 1
      have Hml := Lib.hid hml; clear hml
      go_enter Try.func14, Try.ntmps14
      go_wp2_with fail
      refine (c_szB_yes A L.length c _ _ (by omega) (by omega) hc0).mono ?_
      rintro e w1 ⟨rfl, rfl⟩
      have h0 := Below.refl w.heap.size w
      have hs0 := h0.size
      go_wp2_with fail
      refine (c_toBothS L A c _ ((hA.below h0).more hs0) hn).mono ?_
      rintro e w1 ⟨v1, rfl, o1, hb1⟩
      obtain ⟨A1, d1, rfl, -, -, hA1⟩ := o1.form
      clear o1
      have hz1 := hb1.size
      have h1 := h0.trans (hb1.mono hs0)
      have hs1 := h1.size
      clear hb1 h0
      go_wp2_with fail
      refine (c_toIntS xs B d _ ((hB.below h1).more hs1) hmn).mono ?_
      rintro e w2 ⟨v2, rfl, o2, hb2⟩
      obtain ⟨B2, d2, rfl, -, -, hB2⟩ := o2.form
      have hA2 := (hA1.below hb2).more hb2.size
      have hz2 := hb2.size
      have h2 := h1.trans (hb2.mono hs1)
      have hs2 := h2.size
      clear hb2 h1 hA1 o2
      go_wp2_with fail
      refine (c_sInOrder L xs A1 B2 d1 d2 _ hA2 hB2 (by omega) (by omega)).mono ?_
      rintro e w3 ⟨v3, rfl, o3, hb3⟩
      obtain ⟨B0, e0, rfl, -, -, hI3⟩ := o3.form
      have hz3 := hb3.size
      have h3 := h2.trans (hb3.mono hs2)
      have hs3 := h3.size
      clear hb3 h2 hA2 hB2 o3
      go_wp2_with fail
      refine (c_toBothS L A c _ ((hA.below h3).more hs3) hn).mono ?_
      rintro e w4 ⟨v4, rfl, ox_4, hb4⟩
      have hz4 := hb4.size
      have h4 := h3.trans (hb4.mono hs3)
      have hs4 := h4.size
      have hI4 := hI3.below (hb4.mono (by omega))
      clear hb4 h3 hI3
      obtain ⟨A4, d4, rfl, -, -, hA4⟩ := ox_4.form
      have lt4 := owns_lt ox_4
      go_wp2_with fail
      refine (c_toIntS xs B d _ ((hB.below h4).more hs4) hmn).mono ?_
      rintro e w5 ⟨v5, rfl, oy_5, hb5⟩
      have hA5 := (hA4.below hb5).more hb5.size
      have hz5 := hb5.size
      have h5 := h4.trans (hb5.mono hs4)
      have hs5 := h5.size
      have hI5 := hI4.below (hb5.mono (by omega))
      have ox_5 := ox_4.below hb5 (Nat.le_refl _)
      clear hb5 h4 hI4 ox_4
      obtain ⟨B5, d5, rfl, -, -, hB5⟩ := oy_5.form
      have lt5 := owns_lt oy_5
      go_wp2_with fail
      refine (c_iInOrder L xs A4 B5 d4 d5 _ hA5 hB5 (by omega) (by omega)).mono ?_
      rintro e w6 ⟨v6, rfl, og_6, hb6⟩
      have hA6 := (hA5.below hb6).more hb6.size
      have hB6 := (hB5.below hb6).more hb6.size
      have hz6 := hb6.size
      have h6 := h5.trans (hb6.mono hs5)
      have hs6 := h6.size
      have hI6 := hI5.below (hb6.mono (by omega))
      have ox_6 := ox_5.below hb6 (Nat.le_refl _)
      have oy_6 := oy_5.below hb6 (Nat.le_refl _)
      clear hb6 h5 hI5 ox_5 oy_5
      obtain ⟨G6, g6, rfl, -, -, hG6⟩ := og_6.form
      go_wp2_with fail
      refine (c_eqBothS ((inV L xs)) G6 B0 g6 e0 _ hG6 (hI6.more (by omega)) hR).mono ?_
      rintro e w7 ⟨rfl, hb7⟩
      have hA7 := (hA6.below hb7).more hb7.size
      have hB7 := (hB6.below hb7).more hb7.size
      clear hG6 hA6 hB6 hA5 hB5 hA4
      have hz7 := hb7.size
      have h7 := h6.trans (hb7.mono hs6)
      have hs7 := h7.size
      have hI7 := hI6.below (hb7.mono (by omega))
      have ox_7 := ox_6.below hb7 (Nat.le_refl _)
      have oy_7 := oy_6.below hb7 (Nat.le_refl _)
      have og_7 := og_6.below hb7 (Nat.le_refl _)
      clear hb7 h6 hI6 ox_6 oy_6 og_6
      go_wp2_with fail
      refine (c_toBothS L A c _ ((hA.below h7).more hs7) hn).mono ?_
      rintro e w8 ⟨v8, rfl, oz, hb8⟩
      obtain ⟨C8, c8, rfl, -, -, hC8⟩ := oz.form
      have hA8 := (hA7.below hb8).more hb8.size
      have hB8 := (hB7.below hb8).more hb8.size
      clear oz hA7 hB7
      have hz8 := hb8.size
      have h8 := h7.trans (hb8.mono hs7)
      have hs8 := h8.size
      have hI8 := hI7.below (hb8.mono (by omega))
      have ox_8 := ox_7.below hb8 (Nat.le_refl _)
      have oy_8 := oy_7.below hb8 (Nat.le_refl _)
      have og_8 := og_7.below hb8 (Nat.le_refl _)
      clear hb8 h7 hI7 ox_7 oy_7 og_7
      go_wp2_with fail
      refine (c_eqBothS L A4 C8 d4 c8 _ hA8 hC8 hn).mono ?_
      rintro e w9 ⟨rfl, hb9⟩
      have hB9 := (hB8.below hb9).more hb9.size
      clear hA8 hC8 hB8
      have hz9 := hb9.size
      have h9 := h8.trans (hb9.mono hs8)
      have hs9 := h9.size
      have hI9 := hI8.below (hb9.mono (by omega))
      have ox_9 := ox_8.below hb9 (Nat.le_refl _)
      have oy_9 := oy_8.below hb9 (Nat.le_refl _)
      have og_9 := og_8.below hb9 (Nat.le_refl _)
      clear hb9 h8 hI8 ox_8 oy_8 og_8
      go_wp2_with fail
      refine (c_toIntS xs B d _ ((hB.below h9).more hs9) hmn).mono ?_
      rintro e w10 ⟨v10, rfl, oz, hb10⟩
      obtain ⟨C10, c10, rfl, -, -, hC10⟩ := oz.form
      have hB10 := (hB9.below hb10).more hb10.size
      clear oz hB9
      have hz10 := hb10.size
      have h10 := h9.trans (hb10.mono hs9)
      have hs10 := h10.size
      have hI10 := hI9.below (hb10.mono (by omega))
      have ox_10 := ox_9.below hb10 (Nat.le_refl _)
      have oy_10 := oy_9.below hb10 (Nat.le_refl _)
      have og_10 := og_9.below hb10 (Nat.le_refl _)
      clear hb10 h9 hI9 ox_9 oy_9 og_9
      go_wp2_with fail
      refine (c_eqIntS xs B5 C10 _ _ d5 c10 _ hB10 hC10 (by omega)).mono ?_
      rintro e w11 ⟨rfl, hb11⟩
      clear hB10 hC10
      have hz11 := hb11.size
      have h11 := h10.trans (hb11.mono hs10)
      have hs11 := h11.size
      have hI11 := hI10.below (hb11.mono (by omega))
      have ox_11 := ox_10.below hb11 (Nat.le_refl _)
      have oy_11 := oy_10.below hb11 (Nat.le_refl _)
      have og_11 := og_10.below hb11 (Nat.le_refl _)
      clear hb11 h10 hI10 ox_10 oy_10 og_10
      go_wp2_with fail
      refine (c_markBothS L 1 _ w3.heap.size _ ox_11 hn (by omega) (by omega)).mono ?_
      rintro e w12 ⟨rfl, -, hg12⟩
      have hb12 : Below w3.heap.size w11 w12 := (Below.refl _ _).grown hg12 (by omega) (owns_base ox_11)
      have hz12 := hb12.size
      have h12 := h11.trans (hb12.mono hs3)
      have hs12 := h12.size
      have hI12 := hI11.below hb12
      have oy_12 := oy_11.grownR hg12 lt4
      have og_12 := og_11.grownR hg12 (fun r e => by have := lt4 r e; omega)
      clear hb12 h11 hI11 oy_11 og_11 ox_11 hg12
      have hk12 : (0 : Int) ≤ 1 + 2 * (L.length : Int) := by omega
      go_wp2_with fail
      refine (c_markIntS xs _ _ w4.heap.size _ oy_12 hmn (by omega) (by omega)).mono ?_
      rintro e w13 ⟨rfl, -, hg13⟩
      have hb13 : Below w4.heap.size w12 w13 := (Below.refl _ _).grown hg13 (by omega) (owns_base oy_12)
      have hz13 := hb13.size
      have h13 := h12.trans (hb13.mono hs4)
      have hs13 := h13.size
      have hI13 := hI12.below (hb13.mono (by omega))
      have og_13 := og_12.grownR hg13 lt5
      clear hb13 h12 hI12 oy_12 og_12 hg13
      have hk13 : (0 : Int) ≤ 1 + 2 * (L.length : Int) + (xs.length : Int) := by omega
      have hG13 := og_13.isOf.2
      go_wp2_with fail
      refine (c_eqBothS ((inV L xs)) G6 B0 g6 e0 _ hG13 (hI13.more (by omega)) hR).mono ?_
      rintro e w14 ⟨rfl, hb14⟩
      clear hG13
      have hz14 := hb14.size
      have h14 := h13.trans (hb14.mono hs13)
      have hs14 := h14.size
      have hI14 := hI13.below (hb14.mono (by omega))
      have og_14 := og_13.below hb14 (Nat.le_refl _)
      clear hb14 h13 hI13 og_13
      go_wp2_with fail
      refine (c_markBothS ((inV L xs)) 1 _ w5.heap.size _ og_14 hR (by omega) (by omega)).mono ?_
      rintro e w15 ⟨rfl, og_15, hg15⟩
      have hb15 : Below w5.heap.size w14 w15 := (Below.refl _ _).grown hg15 (by omega) (owns_base og_14)
      have hz15 := hb15.size
      have h15 := h14.trans (hb15.mono hs5)
      have hs15 := h15.size
      have hI15 := hI14.below (hb15.mono (by omega))
      clear hb15 h14 hI14 og_14 hg15
      have hJ15 := og_15.isOf.2
      have hq0 : (0 : Int) ≤ 1 + 2 * (((inV L xs)).length : Int) := by omega
      go_wp2_with fail
      refine (c_heldBothS ((inV L xs)).length 1 _ _ _ _ hJ15 hR (by omega) (by omega)).mono ?_
      rintro e wq ⟨rfl, rfl⟩
      go_wp2_with fail
      refine (c_toBothS L A c _ ((hA.below h15).more hs15) hn).mono ?_
      rintro e w16 ⟨v16, rfl, oz, hb16⟩
      obtain ⟨A16, d16, rfl, -, -, hA16⟩ := oz.form
      clear oz
      have hz16 := hb16.size
      have h16 := h15.trans (hb16.mono hs15)
      have hs16 := h16.size
      have hI16 := hI15.below (hb16.mono (by omega))
      have hJ16 := hJ15.below (hb16.mono (by omega))
      clear hb16 h15 hI15 hJ15
      go_wp2_with fail
      refine (c_toIntS xs B d _ ((hB.below h16).more hs16) hmn).mono ?_
      rintro e w17 ⟨v17, rfl, oz, hb17⟩
      obtain ⟨B17, d17, rfl, -, -, hB17⟩ := oz.form
      have hA17 := (hA16.below hb17).more hb17.size
      clear oz hA16
      have hz17 := hb17.size
      have h17 := h16.trans (hb17.mono hs16)
      have hs17 := h17.size
      have hI17 := hI16.below (hb17.mono (by omega))
      have hJ17 := hJ16.below (hb17.mono (by omega))
      clear hb17 h16 hI16 hJ16
      go_wp2_with fail
      refine (c_iInOrder L xs A16 B17 d16 d17 _ hA17 hB17 (by omega) (by omega)).mono ?_
      rintro e w18 ⟨v18, rfl, oz, hb18⟩
      obtain ⟨H18, d18, rfl, -, -, hH18⟩ := oz.form
      clear oz hA17 hB17
      have hz18 := hb18.size
      have h18 := h17.trans (hb18.mono hs17)
      have hs18 := h18.size
      have hI18 := hI17.below (hb18.mono (by omega))
      have hJ18 := hJ17.below (hb18.mono (by omega))
      clear hb18 h17 hI17 hJ17
      go_wp2_with fail
      refine (c_eqBothS ((inV L xs)) H18 B0 d18 e0 _ hH18 (hI18.more (by omega)) hR).mono ?_
      rintro e w19 ⟨rfl, hb19⟩
      clear hH18
      have hz19 := hb19.size
      have h19 := h18.trans (hb19.mono hs18)
      have hs19 := h19.size
      have hI19 := hI18.below (hb19.mono (by omega))
      have hJ19 := hJ18.below (hb19.mono (by omega))
      clear hb19 h18 hI18 hJ18
      go_wp2_with fail
      refine (c_heldBothS ((inV L xs)).length 1 _ _ _ _ hJ19 hR (by omega) (by omega)).mono ?_
      rintro e wq ⟨rfl, rfl⟩
      go_wp2_with fail
      go_ret
      exact ⟨rfl, h19⟩
    · have hmn : xs.length ≤ 1048576 := by omega
      go_enter Try.func14, Try.ntmps14
      go_wp2_with fail
      refine (c_szB_no A L.length c _ _ (by omega) (by omega) (by omega) hc0).mono ?_
      rintro e w1 ⟨rfl, rfl⟩
      go_wp2_with fail
      go_ret
      exact ⟨rfl, Below.refl _ _⟩
  · have hm' : (1048576 : Int) < (xs.length : Int) := by omega
    go_enter Try.func14, Try.ntmps14
    go_wp2_with fail
    go_ret
    exact ⟨rfl, Below.refl _ _⟩



end Go.Proofs.Ytofjfhifldafcaa


/- walks of the exact laws of chapter 9 (over the program's contracts) -/
import Derived.Test.YtofjfhifldafcaaX6
import Derived.Test.YtofjfhifldafcaaX3
import Derived.Test.YtofjfhifldafcaaKR
import Derived.Test.YtofjfhifldafcaaH
namespace Go.Proofs.Ytofjfhifldafcaa
set_option linter.unusedVariables false
open Go.RowKit
attribute [local go_sem ↓] Go.wp_at_zero Go.wp_at_succ


set_option maxHeartbeats 2000000 in
theorem w_FnExactBothOk (L : List (Int × Int)) (A : Option Addr) (c : Nat) (w : World) (hA : Cs w w.heap.size A L) (hc0 : L.length ≤ 9223372036854775807) :
    Calls Try.prog 10 #[.slice A L.length c] w fun e w' => e = .returned (.bool true) ∧ Below w.heap.size w w' := by
  by_cases hn : L.length ≤ 1048576
  · have hc : L.length ≤ 140737488351232 := by omega
    go_enter Try.func10, Try.ntmps10
    go_wp2_with fail
    refine (c_szB_yes A L.length c _ _ (by omega) (by omega) hc0).mono ?_
    rintro e w1 ⟨rfl, rfl⟩
    go_wp2_with fail
    refine (c_toBothS L A c _ hA hn).mono ?_
    rintro e w1 ⟨v1, rfl, o1, hb1⟩
    have hs1 := hb1.size
    obtain ⟨A1, d1, rfl, hd1, hm1, hA1⟩ := o1.form
    clear o1
    go_wp2_with fail
    refine (c_sBothOk L A1 d1 _ hA1 hc).mono ?_
    rintro e w2 ⟨rfl, hb2⟩
    have h2 := hb1.trans (hb2.mono hs1)
    have hs2 := h2.size
    clear hb1 hb2 hA1
    go_wp2_with fail
    refine (c_toBothS L A c _ ((hA.below h2).more hs2) hn).mono ?_
    rintro e w3 ⟨v3, rfl, o3, hb3⟩
    have h3 := h2.trans (hb3.mono hs2)
    have hs3 := h3.size
    obtain ⟨A3, d3, rfl, hd3, hm3, hA3⟩ := o3.form
    clear o3 hb3 h2
    go_wp2_with fail
    refine (c_iBothOk L A3 d3 _ hA3 hc).mono ?_
    rintro e w4 ⟨rfl, hb4⟩
    have h4 := h3.trans (hb4.mono hs3)
    have hA4 := (hA3.below hb4).more hb4.size
    have hs4 := h4.size
    clear hb4 h3 hA3
    go_wp2_with fail
    refine (c_toBothS L A c _ ((hA.below h4).more hs4) hn).mono ?_
    rintro e w5 ⟨v5, rfl, o5, hb5⟩
    have h5 := h4.trans (hb5.mono hs4)
    have hs5 := h5.size
    have hA5 := (hA4.below hb5).more hb5.size
    obtain ⟨B5, d5, rfl, -, -, hB5⟩ := o5.form
    clear o5 hb5 h4 hA4
    go_wp2_with fail
    refine (c_eqBothS L A3 B5 d3 d5 _ hA5 hB5 hn).mono ?_
    rintro e w6 ⟨rfl, hb6⟩
    go_wp2_with fail
    go_ret
    exact ⟨rfl, h5.trans (hb6.mono hs5)⟩
  · go_enter Try.func10, Try.ntmps10
    go_wp2_with fail
    refine (c_szB_no A L.length c _ _ (by omega) (by omega) (by omega) hc0).mono ?_
    rintro e w1 ⟨rfl, rfl⟩
    go_wp2_with fail
    go_ret
    exact ⟨rfl, Below.refl _ _⟩




set_option maxHeartbeats 2000000 in
theorem w_FnExactLongestWay (L : List (Int × Int)) (A : Option Addr) (c : Nat) (w : World) (hA : Cs w w.heap.size A L) (hc0 : L.length ≤ 9223372036854775807) :
    Calls Try.prog 12 #[.slice A L.length c] w fun e w' => e = .returned (.bool true) ∧ Below w.heap.size w w' := by
  by_cases hn : L.length ≤ 1048576
  · have hc : L.length ≤ 140737488351232 := by omega
    go_enter Try.func12, Try.ntmps12
    go_wp2_with fail
    refine (c_szB_yes A L.length c _ _ (by omega) (by omega) hc0).mono ?_
    rintro e w1 ⟨rfl, rfl⟩
    go_wp2_with fail
    refine (c_toBothS L A c _ hA hn).mono ?_
    rintro e w1 ⟨v1, rfl, o1, hb1⟩
    have hs1 := hb1.size
    obtain ⟨A1, d1, rfl, hd1, hm1, hA1⟩ := o1.form
    clear o1
    go_wp2_with fail
    refine (c_sLongestWay L A1 d1 _ hA1 hc).mono ?_
    rintro e w2 ⟨rfl, hb2⟩
    have h2 := hb1.trans (hb2.mono hs1)
    have hs2 := h2.size
    clear hb1 hb2 hA1
    go_wp2_with fail
    refine (c_toBothS L A c _ ((hA.below h2).more hs2) hn).mono ?_
    rintro e w3 ⟨v3, rfl, o3, hb3⟩
    have h3 := h2.trans (hb3.mono hs2)
    have hs3 := h3.size
    obtain ⟨A3, d3, rfl, hd3, hm3, hA3⟩ := o3.form
    clear o3 hb3 h2
    go_wp2_with fail
    refine (c_iLongestWay L A3 d3 _ hA3 hd3 hc).mono ?_
    rintro e w4 ⟨rfl, hb4⟩
    have h4 := h3.trans (hb4.mono hs3)
    have hA4 := (hA3.below hb4).more hb4.size
    have hs4 := h4.size
    clear hb4 h3 hA3
    go_wp2_with fail
    refine (c_toBothS L A c _ ((hA.below h4).more hs4) hn).mono ?_
    rintro e w5 ⟨v5, rfl, o5, hb5⟩
    have h5 := h4.trans (hb5.mono hs4)
    have hs5 := h5.size
    have hA5 := (hA4.below hb5).more hb5.size
    obtain ⟨B5, d5, rfl, -, -, hB5⟩ := o5.form
    clear o5 hb5 h4 hA4
    go_wp2_with fail
    refine (c_eqBothS L A3 B5 d3 d5 _ hA5 hB5 hn).mono ?_
    rintro e w6 ⟨rfl, hb6⟩
    go_wp2_with fail
    go_ret
    exact ⟨rfl, h5.trans (hb6.mono hs5)⟩
  · go_enter Try.func12, Try.ntmps12
    go_wp2_with fail
    refine (c_szB_no A L.length c _ _ (by omega) (by omega) (by omega) hc0).mono ?_
    rintro e w1 ⟨rfl, rfl⟩
    go_wp2_with fail
    go_ret
    exact ⟨rfl, Below.refl _ _⟩




set_option maxHeartbeats 2000000 in
theorem w_FnExactLeastWay (L : List (Int × Int)) (A : Option Addr) (c : Nat) (w : World) (hA : Cs w w.heap.size A L) (hc0 : L.length ≤ 9223372036854775807) :
    Calls Try.prog 16 #[.slice A L.length c] w fun e w' => e = .returned (.bool true) ∧ Below w.heap.size w w' := by
  by_cases hn : L.length ≤ 1048576
  · have hc : L.length ≤ 140737488351232 := by omega
    go_enter Try.func16, Try.ntmps16
    go_wp2_with fail
    refine (c_szB_yes A L.length c _ _ (by omega) (by omega) hc0).mono ?_
    rintro e w1 ⟨rfl, rfl⟩
    go_wp2_with fail
    refine (c_toBothS L A c _ hA hn).mono ?_
    rintro e w1 ⟨v1, rfl, o1, hb1⟩
    have hs1 := hb1.size
    obtain ⟨A1, d1, rfl, hd1, hm1, hA1⟩ := o1.form
    clear o1
    go_wp2_with fail
    refine (c_sLeastWay L A1 d1 _ hA1 hc).mono ?_
    rintro e w2 ⟨rfl, hb2⟩
    have h2 := hb1.trans (hb2.mono hs1)
    have hs2 := h2.size
    clear hb1 hb2 hA1
    go_wp2_with fail
    refine (c_toBothS L A c _ ((hA.below h2).more hs2) hn).mono ?_
    rintro e w3 ⟨v3, rfl, o3, hb3⟩
    have h3 := h2.trans (hb3.mono hs2)
    have hs3 := h3.size
    obtain ⟨A3, d3, rfl, hd3, hm3, hA3⟩ := o3.form
    clear o3 hb3 h2
    go_wp2_with fail
    refine (c_iLeastWay L A3 d3 _ hA3 hd3 hc).mono ?_
    rintro e w4 ⟨rfl, hb4⟩
    have h4 := h3.trans (hb4.mono hs3)
    have hA4 := (hA3.below hb4).more hb4.size
    have hs4 := h4.size
    clear hb4 h3 hA3
    go_wp2_with fail
    refine (c_toBothS L A c _ ((hA.below h4).more hs4) hn).mono ?_
    rintro e w5 ⟨v5, rfl, o5, hb5⟩
    have h5 := h4.trans (hb5.mono hs4)
    have hs5 := h5.size
    have hA5 := (hA4.below hb5).more hb5.size
    obtain ⟨B5, d5, rfl, -, -, hB5⟩ := o5.form
    clear o5 hb5 h4 hA4
    go_wp2_with fail
    refine (c_eqBothS L A3 B5 d3 d5 _ hA5 hB5 hn).mono ?_
    rintro e w6 ⟨rfl, hb6⟩
    go_wp2_with fail
    go_ret
    exact ⟨rfl, h5.trans (hb6.mono hs5)⟩
  · go_enter Try.func16, Try.ntmps16
    go_wp2_with fail
    refine (c_szB_no A L.length c _ _ (by omega) (by omega) (by omega) hc0).mono ?_
    rintro e w1 ⟨rfl, rfl⟩
    go_wp2_with fail
    go_ret
    exact ⟨rfl, Below.refl _ _⟩



theorem leavesB_len' (L : List (Int × Int)) : (leavesB L).length ≤ 1048576 := by
  cases h : bOk L with
  | true => have := (bOk_parts h).2.2; rw [leavesB_yes h]; simp; omega
  | false => rw [leavesB_no h]; simp
theorem backV_len' (L : List (Int × Int)) : (backV L).length ≤ 1048576 := by
  cases h : bOk L with
  | true => have := (bOk_parts h).2.2; rw [backV_yes h, backB_len]; omega
  | false => rw [backV_no h]; simp
theorem pairsV_len' (L : List (Int × Int)) : (pairsV L).length ≤ 1048576 := by
  cases h : bOk L with
  | true => have := (bOk_parts h).2.2; rw [pairsV_yes h, (pairsR_perm h).length_eq, upto_len]; omega
  | false => rw [pairsV_no h]; simp
theorem inV_len' (L : List (Int × Int)) (o : List Int) : (inV L o).length ≤ 1048576 := by
  cases h : inOk L o with
  | true =>
    have a := inOk_parts h
    have := (bOk_parts a.1).2.2
    have := each_len a.2
    rw [inV_yes h, inOrd_len]; omega
  | false => rw [inV_no h]; simp

set_option maxHeartbeats 4000000 in
theorem wR_FnExactLeavesBoth (L : List (Int × Int)) (A : Option Addr) (c : Nat) (w : World) (hA : Cs w w.heap.size A L) (hc0 : L.length ≤ 9223372036854775807) (hR : ((leavesB L)).length ≤ 1048576) :
    Calls Try.prog 11 #[.slice A L.length c] w fun e w' => e = .returned (.bool true) ∧ Below w.heap.size w w' := by
  by_cases hn : L.length ≤ 1048576
  · have hc : L.length ≤ 140737488351232 := by omega
    have hR2 : ((leavesB L)).length ≤ 140737488351232 := by omega
    have hml := marksI_len ((leavesB L)).length 1
    have Hml := Lib.hid hml; clear hml
    go_enter Try.func11, Try.ntmps11
    go_wp2_with fail
    refine (c_szB_yes A L.length c _ _ (by omega) (by omega) hc0).mono ?_
    rintro e w1 ⟨rfl, rfl⟩
    go_wp2_with fail
    refine (c_toBothS L A c _ hA hn).mono ?_
    rintro e w1 ⟨v1, rfl, o1, hb1⟩
    have hs1 := hb1.size
    obtain ⟨A1, d1, rfl, hd1, hm1, hA1⟩ := o1.form
    clear o1
    go_wp2_with fail
    refine (c_sLeavesBoth L A1 d1 _ hA1 (by omega)).mono ?_
    rintro e w2 ⟨v0, rfl, o0, hb2⟩
    have h2 := hb1.trans (hb2.mono hs1)
    have hs2 := h2.size
    obtain ⟨B0, d0, rfl, -, -, hI0⟩ := o0.form
    clear hb1 hb2 hA1 o0
    go_wp2_with fail
    refine (c_toBothS L A c _ ((hA.below h2).more hs2) hn).mono ?_
    rintro e w3 ⟨v3, rfl, o3, hb3⟩
    have h3 := h2.trans (hb3.mono hs2)
    have hI3 := hI0.below hb3
    have hs3 := h3.size
    have hs23 := hb3.size
    obtain ⟨A3, d3, rfl, hd3, hm3, hA3⟩ := o3.form
    have lt3 := owns_lt o3
    clear hb3 h2 hI0
    go_wp2_with fail
    refine (c_iLeavesBoth L A3 d3 _ hA3 hd3 hc).mono ?_
    rintro e w4 ⟨v4, rfl, o4, hb4⟩
    have h4 := h3.trans (hb4.mono hs3)
    have hI4 := hI3.below (hb4.mono hs23)
    have o34 := o3.below hb4 (Nat.le_refl _)
    have hA4 := (hA3.below hb4).more hb4.size
    have hs4 := h4.size
    have hs34 := hb4.size
    obtain ⟨B4, d4, rfl, -, -, hJ4⟩ := o4.form
    clear hb4 h3 hA3 o3 hI3
    go_wp2_with fail
    refine (c_eqIntS (leavesB L) B4 B0 _ _ d4 d0 _ hJ4 (hI4.more (by omega)) hR2).mono ?_
    rintro e w5 ⟨rfl, hb5⟩
    have h5 := h4.trans (hb5.mono hs4)
    have hI5 := hI4.below (hb5.mono (by omega))
    have o45 := o4.below hb5 (Nat.le_refl _)
    have o35 := o34.below hb5 (Nat.le_refl _)
    have hA5 := (hA4.below hb5).more hb5.size
    have hs5 := h5.size
    have hs45 := hb5.size
    clear hb5 h4 hA4 o34 o4 hI4 hJ4
    go_wp2_with fail
    refine (c_toBothS L A c _ ((hA.below h5).more hs5) hn).mono ?_
    rintro e w6 ⟨v6, rfl, o6, hb6⟩
    have h6 := h5.trans (hb6.mono hs5)
    have hI6 := hI5.below (hb6.mono (by omega))
    have o46 := o45.below hb6 (Nat.le_refl _)
    have o36 := o35.below hb6 (Nat.le_refl _)
    have hA6 := (hA5.below hb6).more hb6.size
    have hs6 := h6.size
    have hs56 := hb6.size
    obtain ⟨B6, d6, rfl, -, -, hB6⟩ := o6.form
    clear hb6 h5 hA5 o35 o45 hI5 o6
    go_wp2_with fail
    refine (c_eqBothS L A3 B6 d3 d6 _ hA6 hB6 hn).mono ?_
    rintro e w7 ⟨rfl, hb7⟩
    have h7 := h6.trans (hb7.mono hs6)
    have hI7 := hI6.below (hb7.mono (by omega))
    have o47 := o46.below hb7 (Nat.le_refl _)
    have o37 := o36.below hb7 (Nat.le_refl _)
    have hs7 := h7.size
    have hs67 := hb7.size
    clear hb7 h6 hA6 o36 o46 hI6 hB6
    go_wp2_with fail
    refine (c_markBothS L 1 _ w2.heap.size _ o37 hn (by omega) (by omega)).mono ?_
    rintro e w8 ⟨rfl, o38, hg8⟩
    have hb8 : Below w2.heap.size w7 w8 := (Below.refl _ _).grown hg8 (by omega) (owns_base o37)
    have h8 := h7.trans (hb8.mono hs2)
    have hI8 := hI7.below hb8
    have o48 := o47.grownR hg8 lt3
    have hs8 := h8.size
    have hs78 := hb8.size
    clear hb8 h7 o37 o47 hI7 hg8 o38
    have hJ8 := o48.isOf.2
    have hk8 : (0 : Int) ≤ 1 + 2 * (L.length : Int) := by omega
    go_wp2_with fail
    refine (c_eqIntS (leavesB L) _ B0 _ _ _ d0 _ hJ8 (hI8.more (by omega)) hR2).mono ?_
    rintro e w9 ⟨rfl, hb9⟩
    have h9 := h8.trans (hb9.mono hs8)
    have hI9 := hI8.below (hb9.mono (by omega))
    have o49 := o48.below hb9 (Nat.le_refl _)
    have hs9 := h9.size
    have hs89 := hb9.size
    clear hb9 h8 o48 hI8 hJ8
    go_wp2_with fail
    refine (c_markIntS ((leavesB L)) 1 _ w3.heap.size _ o49 hR (by omega) (by omega)).mono ?_
    rintro e w10 ⟨rfl, o410, hg10⟩
    have hb10 : Below w3.heap.size w9 w10 := (Below.refl _ _).grown hg10 (by omega) (owns_base o49)
    have h10 := h9.trans (hb10.mono hs3)
    have hI10 := hI9.below (hb10.mono (by omega))
    have hs10 := h10.size
    have hs910 := hb10.size
    clear hb10 h9 o49 hI9 hg10
    have hJ10 := o410.isOf.2
    have hq0 : (0 : Int) ≤ 1 + (((leavesB L)).length : Int) := by omega
    go_wp2_with fail
    refine (c_heldIntS ((leavesB L)).length 1 _ _ _ _ hJ10 hR (by omega) (by omega)).mono ?_
    rintro e w10 ⟨rfl, rfl⟩
    go_wp2_with fail
    refine (c_toBothS L A c _ ((hA.below h10).more hs10) hn).mono ?_
    rintro e w11 ⟨v11, rfl, o11, hb11⟩
    have h11 := h10.trans (hb11.mono hs10)
    have hI11 := hI10.below (hb11.mono (by omega))
    have hJ11 := hJ10.below hb11
    have hs11 := h11.size
    have hs1011 := hb11.size
    obtain ⟨A11, d11, rfl, hd11, -, hA11⟩ := o11.form
    clear hb11 h10 hJ10 hI10 o11 o410
    go_wp2_with fail
    refine (c_iLeavesBoth L A11 d11 _ hA11 hd11 hc).mono ?_
    rintro e w12 ⟨v12, rfl, o12, hb12⟩
    have h12 := h11.trans (hb12.mono hs11)
    have hI12 := hI11.below (hb12.mono (by omega))
    have hJ12 := hJ11.below (hb12.mono (by omega))
    have hs12 := h12.size
    have hs1112 := hb12.size
    obtain ⟨B12, d12, rfl, -, -, hJ12'⟩ := o12.form
    clear hb12 h11 hJ11 hI11 o12 hA11
    go_wp2_with fail
    refine (c_eqIntS (leavesB L) B12 B0 _ _ d12 d0 _ hJ12' (hI12.more (by omega)) hR2).mono ?_
    rintro e w13 ⟨rfl, hb13⟩
    have h13 := h12.trans (hb13.mono hs12)
    have hJ13 := hJ12.below (hb13.mono (by omega))
    clear hb13 h12 hJ12 hI12 hJ12'
    go_wp2_with fail
    refine (c_heldIntS ((leavesB L)).length 1 _ _ _ _ hJ13 hR (by omega) (by omega)).mono ?_
    rintro e w14 ⟨rfl, rfl⟩
    go_wp2_with fail
    go_ret
    exact ⟨rfl, h13⟩
  · go_enter Try.func11, Try.ntmps11
    go_wp2_with fail
    refine (c_szB_no A L.length c _ _ (by omega) (by omega) (by omega) hc0).mono ?_
    rintro e w1 ⟨rfl, rfl⟩
    go_wp2_with fail
    go_ret
    exact ⟨rfl, Below.refl _ _⟩
theorem w_FnExactLeavesBoth (L : List (Int × Int)) (A : Option Addr) (c : Nat) (w : World) (hA : Cs w w.heap.size A L) (hc0 : L.length ≤ 9223372036854775807) :
    Calls Try.prog 11 #[.slice A L.length c] w fun e w' => e = .returned (.bool true) ∧ Below w.heap.size w w' :=
  wR_FnExactLeavesBoth L A c w hA hc0 (leavesB_len' L)




set_option maxHeartbeats 4000000 in
theorem wR_FnExactBackOf (L : List (Int × Int)) (A : Option Addr) (c : Nat) (w : World) (hA : Cs w w.heap.size A L) (hc0 : L.length ≤ 9223372036854775807) (hR : ((backV L)).length ≤ 1048576) :
    Calls Try.prog 13 #[.slice A L.length c] w fun e w' => e = .returned (.bool true) ∧ Below w.heap.size w w' := by
  by_cases hn : L.length ≤ 1048576
  · have hc : L.length ≤ 140737488351232 := by omega
    have hR2 : ((backV L)).length ≤ 140737488351232 := by omega
    have hml := marks_len ((backV L)).length 1
    have Hml := Lib.hid hml; clear hml
    go_enter Try.func13, Try.ntmps13
    go_wp2_with fail
    refine (c_szB_yes A L.length c _ _ (by omega) (by omega) hc0).mono ?_
    rintro e w1 ⟨rfl, rfl⟩
    go_wp2_with fail
    refine (c_toBothS L A c _ hA hn).mono ?_
    rintro e w1 ⟨v1, rfl, o1, hb1⟩
    have hs1 := hb1.size
    obtain ⟨A1, d1, rfl, hd1, hm1, hA1⟩ := o1.form
    clear o1
    go_wp2_with fail
    refine (c_sBackOf L A1 d1 _ hA1 (by omega)).mono ?_
    rintro e w2 ⟨v0, rfl, o0, hb2⟩
    have h2 := hb1.trans (hb2.mono hs1)
    have hs2 := h2.size
    obtain ⟨B0, d0, rfl, -, -, hI0⟩ := o0.form
    clear hb1 hb2 hA1 o0
    go_wp2_with fail
    refine (c_toBothS L A c _ ((hA.below h2).more hs2) hn).mono ?_
    rintro e w3 ⟨v3, rfl, o3, hb3⟩
    have h3 := h2.trans (hb3.mono hs2)
    have hI3 := hI0.below hb3
    have hs3 := h3.size
    have hs23 := hb3.size
    obtain ⟨A3, d3, rfl, hd3, hm3, hA3⟩ := o3.form
    have lt3 := owns_lt o3
    clear hb3 h2 hI0
    go_wp2_with fail
    refine (c_iBackOf L A3 d3 _ hA3 hd3 hc).mono ?_
    rintro e w4 ⟨v4, rfl, o4, hb4⟩
    have h4 := h3.trans (hb4.mono hs3)
    have hI4 := hI3.below (hb4.mono hs23)
    have o34 := o3.below hb4 (Nat.le_refl _)
    have hA4 := (hA3.below hb4).more hb4.size
    have hs4 := h4.size
    have hs34 := hb4.size
    obtain ⟨B4, d4, rfl, -, -, hJ4⟩ := o4.form
    clear hb4 h3 hA3 o3 hI3
    go_wp2_with fail
    refine (c_eqBothS (backV L) B4 B0 d4 d0 _ hJ4 (hI4.more (by omega)) hR).mono ?_
    rintro e w5 ⟨rfl, hb5⟩
    have h5 := h4.trans (hb5.mono hs4)
    have hI5 := hI4.below (hb5.mono (by omega))
    have o45 := o4.below hb5 (Nat.le_refl _)
    have o35 := o34.below hb5 (Nat.le_refl _)
    have hA5 := (hA4.below hb5).more hb5.size
    have hs5 := h5.size
    have hs45 := hb5.size
    clear hb5 h4 hA4 o34 o4 hI4 hJ4
    go_wp2_with fail
    refine (c_toBothS L A c _ ((hA.below h5).more hs5) hn).mono ?_
    rintro e w6 ⟨v6, rfl, o6, hb6⟩
    have h6 := h5.trans (hb6.mono hs5)
    have hI6 := hI5.below (hb6.mono (by omega))
    have o46 := o45.below hb6 (Nat.le_refl _)
    have o36 := o35.below hb6 (Nat.le_refl _)
    have hA6 := (hA5.below hb6).more hb6.size
    have hs6 := h6.size
    have hs56 := hb6.size
    obtain ⟨B6, d6, rfl, -, -, hB6⟩ := o6.form
    clear hb6 h5 hA5 o35 o45 hI5 o6
    go_wp2_with fail
    refine (c_eqBothS L A3 B6 d3 d6 _ hA6 hB6 hn).mono ?_
    rintro e w7 ⟨rfl, hb7⟩
    have h7 := h6.trans (hb7.mono hs6)
    have hI7 := hI6.below (hb7.mono (by omega))
    have o47 := o46.below hb7 (Nat.le_refl _)
    have o37 := o36.below hb7 (Nat.le_refl _)
    have hs7 := h7.size
    have hs67 := hb7.size
    clear hb7 h6 hA6 o36 o46 hI6 hB6
    go_wp2_with fail
    refine (c_markBothS L 1 _ w2.heap.size _ o37 hn (by omega) (by omega)).mono ?_
    rintro e w8 ⟨rfl, o38, hg8⟩
    have hb8 : Below w2.heap.size w7 w8 := (Below.refl _ _).grown hg8 (by omega) (owns_base o37)
    have h8 := h7.trans (hb8.mono hs2)
    have hI8 := hI7.below hb8
    have o48 := o47.grownR hg8 lt3
    have hs8 := h8.size
    have hs78 := hb8.size
    clear hb8 h7 o37 o47 hI7 hg8 o38
    have hJ8 := o48.isOf.2
    have hk8 : (0 : Int) ≤ 1 + 2 * (L.length : Int) := by omega
    go_wp2_with fail
    refine (c_eqBothS (backV L) _ B0 _ d0 _ hJ8 (hI8.more (by omega)) hR).mono ?_
    rintro e w9 ⟨rfl, hb9⟩
    have h9 := h8.trans (hb9.mono hs8)
    have hI9 := hI8.below (hb9.mono (by omega))
    have o49 := o48.below hb9 (Nat.le_refl _)
    have hs9 := h9.size
    have hs89 := hb9.size
    clear hb9 h8 o48 hI8 hJ8
    go_wp2_with fail
    refine (c_markBothS ((backV L)) 1 _ w3.heap.size _ o49 hR (by omega) (by omega)).mono ?_
    rintro e w10 ⟨rfl, o410, hg10⟩
    have hb10 : Below w3.heap.size w9 w10 := (Below.refl _ _).grown hg10 (by omega) (owns_base o49)
    have h10 := h9.trans (hb10.mono hs3)
    have hI10 := hI9.below (hb10.mono (by omega))
    have hs10 := h10.size
    have hs910 := hb10.size
    clear hb10 h9 o49 hI9 hg10
    have hJ10 := o410.isOf.2
    have hq0 : (0 : Int) ≤ 1 + 2 * (((backV L)).length : Int) := by omega
    go_wp2_with fail
    refine (c_heldBothS ((backV L)).length 1 _ _ _ _ hJ10 hR (by omega) (by omega)).mono ?_
    rintro e w10 ⟨rfl, rfl⟩
    go_wp2_with fail
    refine (c_toBothS L A c _ ((hA.below h10).more hs10) hn).mono ?_
    rintro e w11 ⟨v11, rfl, o11, hb11⟩
    have h11 := h10.trans (hb11.mono hs10)
    have hI11 := hI10.below (hb11.mono (by omega))
    have hJ11 := hJ10.below hb11
    have hs11 := h11.size
    have hs1011 := hb11.size
    obtain ⟨A11, d11, rfl, hd11, -, hA11⟩ := o11.form
    clear hb11 h10 hJ10 hI10 o11 o410
    go_wp2_with fail
    refine (c_iBackOf L A11 d11 _ hA11 hd11 hc).mono ?_
    rintro e w12 ⟨v12, rfl, o12, hb12⟩
    have h12 := h11.trans (hb12.mono hs11)
    have hI12 := hI11.below (hb12.mono (by omega))
    have hJ12 := hJ11.below (hb12.mono (by omega))
    have hs12 := h12.size
    have hs1112 := hb12.size
    obtain ⟨B12, d12, rfl, -, -, hJ12'⟩ := o12.form
    clear hb12 h11 hJ11 hI11 o12 hA11
    go_wp2_with fail
    refine (c_eqBothS (backV L) B12 B0 d12 d0 _ hJ12' (hI12.more (by omega)) hR).mono ?_
    rintro e w13 ⟨rfl, hb13⟩
    have h13 := h12.trans (hb13.mono hs12)
    have hJ13 := hJ12.below (hb13.mono (by omega))
    clear hb13 h12 hJ12 hI12 hJ12'
    go_wp2_with fail
    refine (c_heldBothS ((backV L)).length 1 _ _ _ _ hJ13 hR (by omega) (by omega)).mono ?_
    rintro e w14 ⟨rfl, rfl⟩
    go_wp2_with fail
    go_ret
    exact ⟨rfl, h13⟩
  · go_enter Try.func13, Try.ntmps13
    go_wp2_with fail
    refine (c_szB_no A L.length c _ _ (by omega) (by omega) (by omega) hc0).mono ?_
    rintro e w1 ⟨rfl, rfl⟩
    go_wp2_with fail
    go_ret
    exact ⟨rfl, Below.refl _ _⟩
theorem w_FnExactBackOf (L : List (Int × Int)) (A : Option Addr) (c : Nat) (w : World) (hA : Cs w w.heap.size A L) (hc0 : L.length ≤ 9223372036854775807) :
    Calls Try.prog 13 #[.slice A L.length c] w fun e w' => e = .returned (.bool true) ∧ Below w.heap.size w w' :=
  wR_FnExactBackOf L A c w hA hc0 (backV_len' L)




set_option maxHeartbeats 4000000 in
theorem wR_FnExactByPairs (L : List (Int × Int)) (A : Option Addr) (c : Nat) (w : World) (hA : Cs w w.heap.size A L) (hc0 : L.length ≤ 9223372036854775807) (hR : ((pairsV L)).length ≤ 1048576) :
    Calls Try.prog 15 #[.slice A L.length c] w fun e w' => e = .returned (.bool true) ∧ Below w.heap.size w w' := by
  by_cases hn : L.length ≤ 1048576
  · have hc : L.length ≤ 140737488351232 := by omega
    have hR2 : ((pairsV L)).length ≤ 140737488351232 := by omega
    have hml := marksI_len ((pairsV L)).length 1
    have Hml := Lib.hid hml; clear hml
    go_enter Try.func15, Try.ntmps15
    go_wp2_with fail
    refine (c_szB_yes A L.length c _ _ (by omega) (by omega) hc0).mono ?_
    rintro e w1 ⟨rfl, rfl⟩
    go_wp2_with fail
    refine (c_toBothS L A c _ hA hn).mono ?_
    rintro e w1 ⟨v1, rfl, o1, hb1⟩
    have hs1 := hb1.size
    obtain ⟨A1, d1, rfl, hd1, hm1, hA1⟩ := o1.form
    clear o1
    go_wp2_with fail
    refine (c_sByPairs L A1 d1 _ hA1 (by omega)).mono ?_
    rintro e w2 ⟨v0, rfl, o0, hb2⟩
    have h2 := hb1.trans (hb2.mono hs1)
    have hs2 := h2.size
    obtain ⟨B0, d0, rfl, -, -, hI0⟩ := o0.form
    clear hb1 hb2 hA1 o0
    go_wp2_with fail
    refine (c_toBothS L A c _ ((hA.below h2).more hs2) hn).mono ?_
    rintro e w3 ⟨v3, rfl, o3, hb3⟩
    have h3 := h2.trans (hb3.mono hs2)
    have hI3 := hI0.below hb3
    have hs3 := h3.size
    have hs23 := hb3.size
    obtain ⟨A3, d3, rfl, hd3, hm3, hA3⟩ := o3.form
    have lt3 := owns_lt o3
    clear hb3 h2 hI0
    go_wp2_with fail
    refine (c_iByPairs L A3 d3 _ hA3 hd3 hc).mono ?_
    rintro e w4 ⟨v4, rfl, o4, hb4⟩
    have h4 := h3.trans (hb4.mono hs3)
    have hI4 := hI3.below (hb4.mono hs23)
    have o34 := o3.below hb4 (Nat.le_refl _)
    have hA4 := (hA3.below hb4).more hb4.size
    have hs4 := h4.size
    have hs34 := hb4.size
    obtain ⟨B4, d4, rfl, -, -, hJ4⟩ := o4.form
    clear hb4 h3 hA3 o3 hI3
    go_wp2_with fail
    refine (c_eqIntS (pairsV L) B4 B0 _ _ d4 d0 _ hJ4 (hI4.more (by omega)) hR2).mono ?_
    rintro e w5 ⟨rfl, hb5⟩
    have h5 := h4.trans (hb5.mono hs4)
    have hI5 := hI4.below (hb5.mono (by omega))
    have o45 := o4.below hb5 (Nat.le_refl _)
    have o35 := o34.below hb5 (Nat.le_refl _)
    have hA5 := (hA4.below hb5).more hb5.size
    have hs5 := h5.size
    have hs45 := hb5.size
    clear hb5 h4 hA4 o34 o4 hI4 hJ4
    go_wp2_with fail
    refine (c_toBothS L A c _ ((hA.below h5).more hs5) hn).mono ?_
    rintro e w6 ⟨v6, rfl, o6, hb6⟩
    have h6 := h5.trans (hb6.mono hs5)
    have hI6 := hI5.below (hb6.mono (by omega))
    have o46 := o45.below hb6 (Nat.le_refl _)
    have o36 := o35.below hb6 (Nat.le_refl _)
    have hA6 := (hA5.below hb6).more hb6.size
    have hs6 := h6.size
    have hs56 := hb6.size
    obtain ⟨B6, d6, rfl, -, -, hB6⟩ := o6.form
    clear hb6 h5 hA5 o35 o45 hI5 o6
    go_wp2_with fail
    refine (c_eqBothS L A3 B6 d3 d6 _ hA6 hB6 hn).mono ?_
    rintro e w7 ⟨rfl, hb7⟩
    have h7 := h6.trans (hb7.mono hs6)
    have hI7 := hI6.below (hb7.mono (by omega))
    have o47 := o46.below hb7 (Nat.le_refl _)
    have o37 := o36.below hb7 (Nat.le_refl _)
    have hs7 := h7.size
    have hs67 := hb7.size
    clear hb7 h6 hA6 o36 o46 hI6 hB6
    go_wp2_with fail
    refine (c_markBothS L 1 _ w2.heap.size _ o37 hn (by omega) (by omega)).mono ?_
    rintro e w8 ⟨rfl, o38, hg8⟩
    have hb8 : Below w2.heap.size w7 w8 := (Below.refl _ _).grown hg8 (by omega) (owns_base o37)
    have h8 := h7.trans (hb8.mono hs2)
    have hI8 := hI7.below hb8
    have o48 := o47.grownR hg8 lt3
    have hs8 := h8.size
    have hs78 := hb8.size
    clear hb8 h7 o37 o47 hI7 hg8 o38
    have hJ8 := o48.isOf.2
    have hk8 : (0 : Int) ≤ 1 + 2 * (L.length : Int) := by omega
    go_wp2_with fail
    refine (c_eqIntS (pairsV L) _ B0 _ _ _ d0 _ hJ8 (hI8.more (by omega)) hR2).mono ?_
    rintro e w9 ⟨rfl, hb9⟩
    have h9 := h8.trans (hb9.mono hs8)
    have hI9 := hI8.below (hb9.mono (by omega))
    have o49 := o48.below hb9 (Nat.le_refl _)
    have hs9 := h9.size
    have hs89 := hb9.size
    clear hb9 h8 o48 hI8 hJ8
    go_wp2_with fail
    refine (c_markIntS ((pairsV L)) 1 _ w3.heap.size _ o49 hR (by omega) (by omega)).mono ?_
    rintro e w10 ⟨rfl, o410, hg10⟩
    have hb10 : Below w3.heap.size w9 w10 := (Below.refl _ _).grown hg10 (by omega) (owns_base o49)
    have h10 := h9.trans (hb10.mono hs3)
    have hI10 := hI9.below (hb10.mono (by omega))
    have hs10 := h10.size
    have hs910 := hb10.size
    clear hb10 h9 o49 hI9 hg10
    have hJ10 := o410.isOf.2
    have hq0 : (0 : Int) ≤ 1 + (((pairsV L)).length : Int) := by omega
    go_wp2_with fail
    refine (c_heldIntS ((pairsV L)).length 1 _ _ _ _ hJ10 hR (by omega) (by omega)).mono ?_
    rintro e w10 ⟨rfl, rfl⟩
    go_wp2_with fail
    refine (c_toBothS L A c _ ((hA.below h10).more hs10) hn).mono ?_
    rintro e w11 ⟨v11, rfl, o11, hb11⟩
    have h11 := h10.trans (hb11.mono hs10)
    have hI11 := hI10.below (hb11.mono (by omega))
    have hJ11 := hJ10.below hb11
    have hs11 := h11.size
    have hs1011 := hb11.size
    obtain ⟨A11, d11, rfl, hd11, -, hA11⟩ := o11.form
    clear hb11 h10 hJ10 hI10 o11 o410
    go_wp2_with fail
    refine (c_iByPairs L A11 d11 _ hA11 hd11 hc).mono ?_
    rintro e w12 ⟨v12, rfl, o12, hb12⟩
    have h12 := h11.trans (hb12.mono hs11)
    have hI12 := hI11.below (hb12.mono (by omega))
    have hJ12 := hJ11.below (hb12.mono (by omega))
    have hs12 := h12.size
    have hs1112 := hb12.size
    obtain ⟨B12, d12, rfl, -, -, hJ12'⟩ := o12.form
    clear hb12 h11 hJ11 hI11 o12 hA11
    go_wp2_with fail
    refine (c_eqIntS (pairsV L) B12 B0 _ _ d12 d0 _ hJ12' (hI12.more (by omega)) hR2).mono ?_
    rintro e w13 ⟨rfl, hb13⟩
    have h13 := h12.trans (hb13.mono hs12)
    have hJ13 := hJ12.below (hb13.mono (by omega))
    clear hb13 h12 hJ12 hI12 hJ12'
    go_wp2_with fail
    refine (c_heldIntS ((pairsV L)).length 1 _ _ _ _ hJ13 hR (by omega) (by omega)).mono ?_
    rintro e w14 ⟨rfl, rfl⟩
    go_wp2_with fail
    go_ret
    exact ⟨rfl, h13⟩
  · go_enter Try.func15, Try.ntmps15
    go_wp2_with fail
    refine (c_szB_no A L.length c _ _ (by omega) (by omega) (by omega) hc0).mono ?_
    rintro e w1 ⟨rfl, rfl⟩
    go_wp2_with fail
    go_ret
    exact ⟨rfl, Below.refl _ _⟩
theorem w_FnExactByPairs (L : List (Int × Int)) (A : Option Addr) (c : Nat) (w : World) (hA : Cs w w.heap.size A L) (hc0 : L.length ≤ 9223372036854775807) :
    Calls Try.prog 15 #[.slice A L.length c] w fun e w' => e = .returned (.bool true) ∧ Below w.heap.size w w' :=
  wR_FnExactByPairs L A c w hA hc0 (pairsV_len' L)



end Go.Proofs.Ytofjfhifldafcaa


/- walks of the exact laws of chapter 10 (over the program's contracts) -/
import Derived.Test.YthoendonhkffkaaX
import Derived.Test.YthoendonhkffkaaX3
import Derived.Test.YthoendonhkffkaaKS
import Derived.Test.YthoendonhkffkaaH
namespace Go.Proofs.Ythoendonhkffkaa
set_option linter.unusedVariables false
open Go.RowKit
attribute [local go_sem ↓] Go.wp_at_zero Go.wp_at_succ


set_option maxHeartbeats 2000000 in
theorem w_FnExactServedAt (L : List (Int × Int)) (A : Option Addr) (c : Nat) (t : Int) (u : Int) (w : World) (hA : Cs w w.heap.size A L) (hc0 : L.length ≤ 9223372036854775807) (ht : -9223372036854775808 ≤ t ∧ t ≤ 9223372036854775807) (hu : -9223372036854775808 ≤ u ∧ u ≤ 9223372036854775807) :
    Calls Try.prog 9 #[.slice A L.length c, .int .i64 t, .int .i64 u] w fun e w' => e = .returned (.bool true) ∧ Below w.heap.size w w' := by
  by_cases hn : L.length ≤ 1048576
  · have hc : L.length ≤ 140737488351232 := by omega
    go_enter Try.func9, Try.ntmps9
    go_wp2_with fail
    refine (c_sz_yes A L.length c _ _ (by omega) (by omega) hc0).mono ?_
    rintro e w1 ⟨rfl, rfl⟩
    go_wp2_with fail
    refine (c_toCustomerS L A c _ hA hn).mono ?_
    rintro e w1 ⟨v1, rfl, o1, hb1⟩
    have hs1 := hb1.size
    obtain ⟨A1, d1, rfl, hd1, hm1, hA1⟩ := o1.form
    clear o1
    go_wp2_with fail
    refine (c_sServedAt L A1 d1 t u _ hA1 hc).mono ?_
    rintro e w2 ⟨rfl, hb2⟩
    have h2 := hb1.trans (hb2.mono hs1)
    have hs2 := h2.size
    clear hb1 hb2 hA1
    go_wp2_with fail
    refine (c_toCustomerS L A c _ ((hA.below h2).more hs2) hn).mono ?_
    rintro e w3 ⟨v3, rfl, o3, hb3⟩
    have h3 := h2.trans (hb3.mono hs2)
    have hs3 := h3.size
    obtain ⟨A3, d3, rfl, hd3, hm3, hA3⟩ := o3.form
    clear o3 hb3 h2
    go_wp2_with fail
    refine (c_iServedAt L A3 d3 t u _ hA3 hd3 hc).mono ?_
    rintro e w4 ⟨rfl, hb4⟩
    have h4 := h3.trans (hb4.mono hs3)
    have hA4 := (hA3.below hb4).more hb4.size
    have hs4 := h4.size
    clear hb4 h3 hA3
    go_wp2_with fail
    refine (c_toCustomerS L A c _ ((hA.below h4).more hs4) hn).mono ?_
    rintro e w5 ⟨v5, rfl, o5, hb5⟩
    have h5 := h4.trans (hb5.mono hs4)
    have hs5 := h5.size
    have hA5 := (hA4.below hb5).more hb5.size
    obtain ⟨B5, d5, rfl, -, -, hB5⟩ := o5.form
    clear o5 hb5 h4 hA4
    go_wp2_with fail
    refine (c_eqCustomerS L A3 B5 d3 d5 _ hA5 hB5 hn).mono ?_
    rintro e w6 ⟨rfl, hb6⟩
    go_wp2_with fail
    go_ret
    exact ⟨rfl, h5.trans (hb6.mono hs5)⟩
  · go_enter Try.func9, Try.ntmps9
    go_wp2_with fail
    refine (c_sz_no A L.length c _ _ (by omega) (by omega) (by omega) hc0).mono ?_
    rintro e w1 ⟨rfl, rfl⟩
    go_wp2_with fail
    go_ret
    exact ⟨rfl, Below.refl _ _⟩




set_option maxHeartbeats 2000000 in
theorem w_FnExactWaitSum (L : List (Int × Int)) (A : Option Addr) (c : Nat) (t : Int) (w : World) (hA : Cs w w.heap.size A L) (hc0 : L.length ≤ 9223372036854775807) (ht : -9223372036854775808 ≤ t ∧ t ≤ 9223372036854775807) :
    Calls Try.prog 10 #[.slice A L.length c, .int .i64 t] w fun e w' => e = .returned (.bool true) ∧ Below w.heap.size w w' := by
  by_cases hn : L.length ≤ 1048576
  · have hc : L.length ≤ 140737488351232 := by omega
    go_enter Try.func10, Try.ntmps10
    go_wp2_with fail
    refine (c_sz_yes A L.length c _ _ (by omega) (by omega) hc0).mono ?_
    rintro e w1 ⟨rfl, rfl⟩
    go_wp2_with fail
    refine (c_toCustomerS L A c _ hA hn).mono ?_
    rintro e w1 ⟨v1, rfl, o1, hb1⟩
    have hs1 := hb1.size
    obtain ⟨A1, d1, rfl, hd1, hm1, hA1⟩ := o1.form
    clear o1
    go_wp2_with fail
    refine (c_sWaitSum L A1 d1 t _ hA1 hc).mono ?_
    rintro e w2 ⟨rfl, hb2⟩
    have h2 := hb1.trans (hb2.mono hs1)
    have hs2 := h2.size
    clear hb1 hb2 hA1
    go_wp2_with fail
    refine (c_toCustomerS L A c _ ((hA.below h2).more hs2) hn).mono ?_
    rintro e w3 ⟨v3, rfl, o3, hb3⟩
    have h3 := h2.trans (hb3.mono hs2)
    have hs3 := h3.size
    obtain ⟨A3, d3, rfl, hd3, hm3, hA3⟩ := o3.form
    clear o3 hb3 h2
    go_wp2_with fail
    refine (c_iWaitSum L A3 d3 t _ hA3 hd3 hc).mono ?_
    rintro e w4 ⟨rfl, hb4⟩
    have h4 := h3.trans (hb4.mono hs3)
    have hA4 := (hA3.below hb4).more hb4.size
    have hs4 := h4.size
    clear hb4 h3 hA3
    go_wp2_with fail
    refine (c_toCustomerS L A c _ ((hA.below h4).more hs4) hn).mono ?_
    rintro e w5 ⟨v5, rfl, o5, hb5⟩
    have h5 := h4.trans (hb5.mono hs4)
    have hs5 := h5.size
    have hA5 := (hA4.below hb5).more hb5.size
    obtain ⟨B5, d5, rfl, -, -, hB5⟩ := o5.form
    clear o5 hb5 h4 hA4
    go_wp2_with fail
    refine (c_eqCustomerS L A3 B5 d3 d5 _ hA5 hB5 hn).mono ?_
    rintro e w6 ⟨rfl, hb6⟩
    go_wp2_with fail
    go_ret
    exact ⟨rfl, h5.trans (hb6.mono hs5)⟩
  · go_enter Try.func10, Try.ntmps10
    go_wp2_with fail
    refine (c_sz_no A L.length c _ _ (by omega) (by omega) (by omega) hc0).mono ?_
    rintro e w1 ⟨rfl, rfl⟩
    go_wp2_with fail
    go_ret
    exact ⟨rfl, Below.refl _ _⟩



theorem beginsV_len' (L : List (Int × Int)) (t : Int) : (beginsV L t).length ≤ 1048576 := by have := beginsV_len L t; omega
theorem leaveBeV_len (L : List (Int × Int)) (c : Int) : (leaveBeV L c).length ≤ 8 := by
  cases h : besOk L c with
  | true => have := cOk_len (besOk_parts h).1; rw [leaveBeV_yes h, leaveBeTo_len]; omega
  | false => rw [leaveBeV_no h]; simp
theorem leaveBeV_len' (L : List (Int × Int)) (t : Int) : (leaveBeV L t).length ≤ 1048576 := by have := leaveBeV_len L t; omega

set_option maxHeartbeats 4000000 in
theorem wR_FnExactBeginsOf (L : List (Int × Int)) (A : Option Addr) (c : Nat) (t : Int) (w : World) (hA : Cs w w.heap.size A L) (hc0 : L.length ≤ 9223372036854775807) (ht : -9223372036854775808 ≤ t ∧ t ≤ 9223372036854775807) (hR : ((beginsV L t)).length ≤ 1048576) :
    Calls Try.prog 7 #[.slice A L.length c, .int .i64 t] w fun e w' => e = .returned (.bool true) ∧ Below w.heap.size w w' := by
  by_cases hn : L.length ≤ 1048576
  · have hc : L.length ≤ 140737488351232 := by omega
    have hR2 : ((beginsV L t)).length ≤ 140737488351232 := by omega
    have hml := marksI_len ((beginsV L t)).length 1
    have Hml := Lib.hid hml; clear hml
    go_enter Try.func7, Try.ntmps7
    go_wp2_with fail
    refine (c_sz_yes A L.length c _ _ (by omega) (by omega) hc0).mono ?_
    rintro e w1 ⟨rfl, rfl⟩
    go_wp2_with fail
    refine (c_toCustomerS L A c _ hA hn).mono ?_
    rintro e w1 ⟨v1, rfl, o1, hb1⟩
    have hs1 := hb1.size
    obtain ⟨A1, d1, rfl, hd1, hm1, hA1⟩ := o1.form
    clear o1
    go_wp2_with fail
    refine (c_sBeginsOf L A1 d1 t _ hA1 (by omega)).mono ?_
    rintro e w2 ⟨v0, rfl, o0, hb2⟩
    have h2 := hb1.trans (hb2.mono hs1)
    have hs2 := h2.size
    obtain ⟨B0, d0, rfl, -, -, hI0⟩ := o0.form
    clear hb1 hb2 hA1 o0
    go_wp2_with fail
    refine (c_toCustomerS L A c _ ((hA.below h2).more hs2) hn).mono ?_
    rintro e w3 ⟨v3, rfl, o3, hb3⟩
    have h3 := h2.trans (hb3.mono hs2)
    have hI3 := hI0.below hb3
    have hs3 := h3.size
    have hs23 := hb3.size
    obtain ⟨A3, d3, rfl, hd3, hm3, hA3⟩ := o3.form
    have lt3 := owns_lt o3
    clear hb3 h2 hI0
    go_wp2_with fail
    refine (c_iBeginsOf L A3 d3 t _ hA3 hd3 hc).mono ?_
    rintro e w4 ⟨v4, rfl, o4, hb4⟩
    have h4 := h3.trans (hb4.mono hs3)
    have hI4 := hI3.below (hb4.mono hs23)
    have o34 := o3.below hb4 (Nat.le_refl _)
    have hA4 := (hA3.below hb4).more hb4.size
    have hs4 := h4.size
    have hs34 := hb4.size
    obtain ⟨B4, d4, rfl, -, -, hJ4⟩ := o4.form
    clear hb4 h3 hA3 o3 hI3
    go_wp2_with fail
    refine (c_eqIntS (beginsV L t) B4 B0 _ _ d4 d0 _ hJ4 (hI4.more (by omega)) hR2).mono ?_
    rintro e w5 ⟨rfl, hb5⟩
    have h5 := h4.trans (hb5.mono hs4)
    have hI5 := hI4.below (hb5.mono (by omega))
    have o45 := o4.below hb5 (Nat.le_refl _)
    have o35 := o34.below hb5 (Nat.le_refl _)
    have hA5 := (hA4.below hb5).more hb5.size
    have hs5 := h5.size
    have hs45 := hb5.size
    clear hb5 h4 hA4 o34 o4 hI4 hJ4
    go_wp2_with fail
    refine (c_toCustomerS L A c _ ((hA.below h5).more hs5) hn).mono ?_
    rintro e w6 ⟨v6, rfl, o6, hb6⟩
    have h6 := h5.trans (hb6.mono hs5)
    have hI6 := hI5.below (hb6.mono (by omega))
    have o46 := o45.below hb6 (Nat.le_refl _)
    have o36 := o35.below hb6 (Nat.le_refl _)
    have hA6 := (hA5.below hb6).more hb6.size
    have hs6 := h6.size
    have hs56 := hb6.size
    obtain ⟨B6, d6, rfl, -, -, hB6⟩ := o6.form
    clear hb6 h5 hA5 o35 o45 hI5 o6
    go_wp2_with fail
    refine (c_eqCustomerS L A3 B6 d3 d6 _ hA6 hB6 hn).mono ?_
    rintro e w7 ⟨rfl, hb7⟩
    have h7 := h6.trans (hb7.mono hs6)
    have hI7 := hI6.below (hb7.mono (by omega))
    have o47 := o46.below hb7 (Nat.le_refl _)
    have o37 := o36.below hb7 (Nat.le_refl _)
    have hs7 := h7.size
    have hs67 := hb7.size
    clear hb7 h6 hA6 o36 o46 hI6 hB6
    go_wp2_with fail
    refine (c_markCustomerS L 1 _ w2.heap.size _ o37 hn (by omega) (by omega)).mono ?_
    rintro e w8 ⟨rfl, o38, hg8⟩
    have hb8 : Below w2.heap.size w7 w8 := (Below.refl _ _).grown hg8 (by omega) (owns_base o37)
    have h8 := h7.trans (hb8.mono hs2)
    have hI8 := hI7.below hb8
    have o48 := o47.grownR hg8 lt3
    have hs8 := h8.size
    have hs78 := hb8.size
    clear hb8 h7 o37 o47 hI7 hg8 o38
    have hJ8 := o48.isOf.2
    have hk8 : (0 : Int) ≤ 1 + 2 * (L.length : Int) := by omega
    go_wp2_with fail
    refine (c_eqIntS (beginsV L t) _ B0 _ _ _ d0 _ hJ8 (hI8.more (by omega)) hR2).mono ?_
    rintro e w9 ⟨rfl, hb9⟩
    have h9 := h8.trans (hb9.mono hs8)
    have hI9 := hI8.below (hb9.mono (by omega))
    have o49 := o48.below hb9 (Nat.le_refl _)
    have hs9 := h9.size
    have hs89 := hb9.size
    clear hb9 h8 o48 hI8 hJ8
    go_wp2_with fail
    refine (c_markIntS ((beginsV L t)) 1 _ w3.heap.size _ o49 hR (by omega) (by omega)).mono ?_
    rintro e w10 ⟨rfl, o410, hg10⟩
    have hb10 : Below w3.heap.size w9 w10 := (Below.refl _ _).grown hg10 (by omega) (owns_base o49)
    have h10 := h9.trans (hb10.mono hs3)
    have hI10 := hI9.below (hb10.mono (by omega))
    have hs10 := h10.size
    have hs910 := hb10.size
    clear hb10 h9 o49 hI9 hg10
    have hJ10 := o410.isOf.2
    have hq0 : (0 : Int) ≤ 1 + (((beginsV L t)).length : Int) := by omega
    go_wp2_with fail
    refine (c_heldIntS ((beginsV L t)).length 1 _ _ _ _ hJ10 hR (by omega) (by omega)).mono ?_
    rintro e w10 ⟨rfl, rfl⟩
    go_wp2_with fail
    refine (c_toCustomerS L A c _ ((hA.below h10).more hs10) hn).mono ?_
    rintro e w11 ⟨v11, rfl, o11, hb11⟩
    have h11 := h10.trans (hb11.mono hs10)
    have hI11 := hI10.below (hb11.mono (by omega))
    have hJ11 := hJ10.below hb11
    have hs11 := h11.size
    have hs1011 := hb11.size
    obtain ⟨A11, d11, rfl, hd11, -, hA11⟩ := o11.form
    clear hb11 h10 hJ10 hI10 o11 o410
    go_wp2_with fail
    refine (c_iBeginsOf L A11 d11 t _ hA11 hd11 hc).mono ?_
    rintro e w12 ⟨v12, rfl, o12, hb12⟩
    have h12 := h11.trans (hb12.mono hs11)
    have hI12 := hI11.below (hb12.mono (by omega))
    have hJ12 := hJ11.below (hb12.mono (by omega))
    have hs12 := h12.size
    have hs1112 := hb12.size
    obtain ⟨B12, d12, rfl, -, -, hJ12'⟩ := o12.form
    clear hb12 h11 hJ11 hI11 o12 hA11
    go_wp2_with fail
    refine (c_eqIntS (beginsV L t) B12 B0 _ _ d12 d0 _ hJ12' (hI12.more (by omega)) hR2).mono ?_
    rintro e w13 ⟨rfl, hb13⟩
    have h13 := h12.trans (hb13.mono hs12)
    have hJ13 := hJ12.below (hb13.mono (by omega))
    clear hb13 h12 hJ12 hI12 hJ12'
    go_wp2_with fail
    refine (c_heldIntS ((beginsV L t)).length 1 _ _ _ _ hJ13 hR (by omega) (by omega)).mono ?_
    rintro e w14 ⟨rfl, rfl⟩
    go_wp2_with fail
    go_ret
    exact ⟨rfl, h13⟩
  · go_enter Try.func7, Try.ntmps7
    go_wp2_with fail
    refine (c_sz_no A L.length c _ _ (by omega) (by omega) (by omega) hc0).mono ?_
    rintro e w1 ⟨rfl, rfl⟩
    go_wp2_with fail
    go_ret
    exact ⟨rfl, Below.refl _ _⟩
theorem w_FnExactBeginsOf (L : List (Int × Int)) (A : Option Addr) (c : Nat) (t : Int) (w : World) (hA : Cs w w.heap.size A L) (hc0 : L.length ≤ 9223372036854775807) (ht : -9223372036854775808 ≤ t ∧ t ≤ 9223372036854775807) :
    Calls Try.prog 7 #[.slice A L.length c, .int .i64 t] w fun e w' => e = .returned (.bool true) ∧ Below w.heap.size w w' :=
  wR_FnExactBeginsOf L A c t w hA hc0 ht (beginsV_len' L t)




set_option maxHeartbeats 4000000 in
theorem wR_FnExactLeavesBeside (L : List (Int × Int)) (A : Option Addr) (c : Nat) (t : Int) (w : World) (hA : Cs w w.heap.size A L) (hc0 : L.length ≤ 9223372036854775807) (ht : -9223372036854775808 ≤ t ∧ t ≤ 9223372036854775807) (hR : ((leaveBeV L t)).length ≤ 1048576) :
    Calls Try.prog 8 #[.slice A L.length c, .int .i64 t] w fun e w' => e = .returned (.bool true) ∧ Below w.heap.size w w' := by
  by_cases hn : L.length ≤ 1048576
  · have hc : L.length ≤ 140737488351232 := by omega
    have hR2 : ((leaveBeV L t)).length ≤ 140737488351232 := by omega
    have hml := marksI_len ((leaveBeV L t)).length 1
    have Hml := Lib.hid hml; clear hml
    go_enter Try.func8, Try.ntmps8
    go_wp2_with fail
    refine (c_sz_yes A L.length c _ _ (by omega) (by omega) hc0).mono ?_
    rintro e w1 ⟨rfl, rfl⟩
    go_wp2_with fail
    refine (c_toCustomerS L A c _ hA hn).mono ?_
    rintro e w1 ⟨v1, rfl, o1, hb1⟩
    have hs1 := hb1.size
    obtain ⟨A1, d1, rfl, hd1, hm1, hA1⟩ := o1.form
    clear o1
    go_wp2_with fail
    refine (c_sLeavesBeside L A1 d1 t _ hA1 (by omega)).mono ?_
    rintro e w2 ⟨v0, rfl, o0, hb2⟩
    have h2 := hb1.trans (hb2.mono hs1)
    have hs2 := h2.size
    obtain ⟨B0, d0, rfl, -, -, hI0⟩ := o0.form
    clear hb1 hb2 hA1 o0
    go_wp2_with fail
    refine (c_toCustomerS L A c _ ((hA.below h2).more hs2) hn).mono ?_
    rintro e w3 ⟨v3, rfl, o3, hb3⟩
    have h3 := h2.trans (hb3.mono hs2)
    have hI3 := hI0.below hb3
    have hs3 := h3.size
    have hs23 := hb3.size
    obtain ⟨A3, d3, rfl, hd3, hm3, hA3⟩ := o3.form
    have lt3 := owns_lt o3
    clear hb3 h2 hI0
    go_wp2_with fail
    refine (c_iLeavesBeside L A3 d3 t _ hA3 hd3 hc).mono ?_
    rintro e w4 ⟨v4, rfl, o4, hb4⟩
    have h4 := h3.trans (hb4.mono hs3)
    have hI4 := hI3.below (hb4.mono hs23)
    have o34 := o3.below hb4 (Nat.le_refl _)
    have hA4 := (hA3.below hb4).more hb4.size
    have hs4 := h4.size
    have hs34 := hb4.size
    obtain ⟨B4, d4, rfl, -, -, hJ4⟩ := o4.form
    clear hb4 h3 hA3 o3 hI3
    go_wp2_with fail
    refine (c_eqIntS (leaveBeV L t) B4 B0 _ _ d4 d0 _ hJ4 (hI4.more (by omega)) hR2).mono ?_
    rintro e w5 ⟨rfl, hb5⟩
    have h5 := h4.trans (hb5.mono hs4)
    have hI5 := hI4.below (hb5.mono (by omega))
    have o45 := o4.below hb5 (Nat.le_refl _)
    have o35 := o34.below hb5 (Nat.le_refl _)
    have hA5 := (hA4.below hb5).more hb5.size
    have hs5 := h5.size
    have hs45 := hb5.size
    clear hb5 h4 hA4 o34 o4 hI4 hJ4
    go_wp2_with fail
    refine (c_toCustomerS L A c _ ((hA.below h5).more hs5) hn).mono ?_
    rintro e w6 ⟨v6, rfl, o6, hb6⟩
    have h6 := h5.trans (hb6.mono hs5)
    have hI6 := hI5.below (hb6.mono (by omega))
    have o46 := o45.below hb6 (Nat.le_refl _)
    have o36 := o35.below hb6 (Nat.le_refl _)
    have hA6 := (hA5.below hb6).more hb6.size
    have hs6 := h6.size
    have hs56 := hb6.size
    obtain ⟨B6, d6, rfl, -, -, hB6⟩ := o6.form
    clear hb6 h5 hA5 o35 o45 hI5 o6
    go_wp2_with fail
    refine (c_eqCustomerS L A3 B6 d3 d6 _ hA6 hB6 hn).mono ?_
    rintro e w7 ⟨rfl, hb7⟩
    have h7 := h6.trans (hb7.mono hs6)
    have hI7 := hI6.below (hb7.mono (by omega))
    have o47 := o46.below hb7 (Nat.le_refl _)
    have o37 := o36.below hb7 (Nat.le_refl _)
    have hs7 := h7.size
    have hs67 := hb7.size
    clear hb7 h6 hA6 o36 o46 hI6 hB6
    go_wp2_with fail
    refine (c_markCustomerS L 1 _ w2.heap.size _ o37 hn (by omega) (by omega)).mono ?_
    rintro e w8 ⟨rfl, o38, hg8⟩
    have hb8 : Below w2.heap.size w7 w8 := (Below.refl _ _).grown hg8 (by omega) (owns_base o37)
    have h8 := h7.trans (hb8.mono hs2)
    have hI8 := hI7.below hb8
    have o48 := o47.grownR hg8 lt3
    have hs8 := h8.size
    have hs78 := hb8.size
    clear hb8 h7 o37 o47 hI7 hg8 o38
    have hJ8 := o48.isOf.2
    have hk8 : (0 : Int) ≤ 1 + 2 * (L.length : Int) := by omega
    go_wp2_with fail
    refine (c_eqIntS (leaveBeV L t) _ B0 _ _ _ d0 _ hJ8 (hI8.more (by omega)) hR2).mono ?_
    rintro e w9 ⟨rfl, hb9⟩
    have h9 := h8.trans (hb9.mono hs8)
    have hI9 := hI8.below (hb9.mono (by omega))
    have o49 := o48.below hb9 (Nat.le_refl _)
    have hs9 := h9.size
    have hs89 := hb9.size
    clear hb9 h8 o48 hI8 hJ8
    go_wp2_with fail
    refine (c_markIntS ((leaveBeV L t)) 1 _ w3.heap.size _ o49 hR (by omega) (by omega)).mono ?_
    rintro e w10 ⟨rfl, o410, hg10⟩
    have hb10 : Below w3.heap.size w9 w10 := (Below.refl _ _).grown hg10 (by omega) (owns_base o49)
    have h10 := h9.trans (hb10.mono hs3)
    have hI10 := hI9.below (hb10.mono (by omega))
    have hs10 := h10.size
    have hs910 := hb10.size
    clear hb10 h9 o49 hI9 hg10
    have hJ10 := o410.isOf.2
    have hq0 : (0 : Int) ≤ 1 + (((leaveBeV L t)).length : Int) := by omega
    go_wp2_with fail
    refine (c_heldIntS ((leaveBeV L t)).length 1 _ _ _ _ hJ10 hR (by omega) (by omega)).mono ?_
    rintro e w10 ⟨rfl, rfl⟩
    go_wp2_with fail
    refine (c_toCustomerS L A c _ ((hA.below h10).more hs10) hn).mono ?_
    rintro e w11 ⟨v11, rfl, o11, hb11⟩
    have h11 := h10.trans (hb11.mono hs10)
    have hI11 := hI10.below (hb11.mono (by omega))
    have hJ11 := hJ10.below hb11
    have hs11 := h11.size
    have hs1011 := hb11.size
    obtain ⟨A11, d11, rfl, hd11, -, hA11⟩ := o11.form
    clear hb11 h10 hJ10 hI10 o11 o410
    go_wp2_with fail
    refine (c_iLeavesBeside L A11 d11 t _ hA11 hd11 hc).mono ?_
    rintro e w12 ⟨v12, rfl, o12, hb12⟩
    have h12 := h11.trans (hb12.mono hs11)
    have hI12 := hI11.below (hb12.mono (by omega))
    have hJ12 := hJ11.below (hb12.mono (by omega))
    have hs12 := h12.size
    have hs1112 := hb12.size
    obtain ⟨B12, d12, rfl, -, -, hJ12'⟩ := o12.form
    clear hb12 h11 hJ11 hI11 o12 hA11
    go_wp2_with fail
    refine (c_eqIntS (leaveBeV L t) B12 B0 _ _ d12 d0 _ hJ12' (hI12.more (by omega)) hR2).mono ?_
    rintro e w13 ⟨rfl, hb13⟩
    have h13 := h12.trans (hb13.mono hs12)
    have hJ13 := hJ12.below (hb13.mono (by omega))
    clear hb13 h12 hJ12 hI12 hJ12'
    go_wp2_with fail
    refine (c_heldIntS ((leaveBeV L t)).length 1 _ _ _ _ hJ13 hR (by omega) (by omega)).mono ?_
    rintro e w14 ⟨rfl, rfl⟩
    go_wp2_with fail
    go_ret
    exact ⟨rfl, h13⟩
  · go_enter Try.func8, Try.ntmps8
    go_wp2_with fail
    refine (c_sz_no A L.length c _ _ (by omega) (by omega) (by omega) hc0).mono ?_
    rintro e w1 ⟨rfl, rfl⟩
    go_wp2_with fail
    go_ret
    exact ⟨rfl, Below.refl _ _⟩
theorem w_FnExactLeavesBeside (L : List (Int × Int)) (A : Option Addr) (c : Nat) (t : Int) (w : World) (hA : Cs w w.heap.size A L) (hc0 : L.length ≤ 9223372036854775807) (ht : -9223372036854775808 ≤ t ∧ t ≤ 9223372036854775807) :
    Calls Try.prog 8 #[.slice A L.length c, .int .i64 t] w fun e w' => e = .returned (.bool true) ∧ Below w.heap.size w w' :=
  wR_FnExactLeavesBeside L A c t w hA hc0 ht (leaveBeV_len' L t)



end Go.Proofs.Ythoendonhkffkaa


/- walks of the exact laws of chapter 1 -/
import Derived.Test.YtjganggebdpceaaX
import Derived.Test.YtjganggebdpceaaD
import Derived.Test.YtjganggebdpceaaH
import Derived.Test.YtjganggebdpceaaE
import Derived.Test.YtjganggebdpceaaF
namespace Go.Proofs.Ytjganggebdpceaa
set_option linter.unusedVariables false
open Go.RowKit


theorem IO.grownR {w w' : World} {base : Nat} {row : Option Nat} {v : Value} {L : List Int} (h : IO w base v L) (hg : w.grownBy w' row) (hr : ∀ r, row = some r → r < base) : IO w' base v L := by
  refine ⟨h.1, ?_⟩
  have hl := owns_lt h
  rcases h.2 with h2 | ⟨g, cap, cur, rfl, hgb, hh, rest⟩
  · exact .inl h2
  · have := hl g (by simp [Value.ownBlock])
    exact .inr ⟨g, cap, cur, rfl, hgb, by rw [hg.block g (by omega) (fun e => by have := hr _ e.symm; omega)]; exact hh, rest⟩
theorem IO.isOf {w : World} {base n c : Nat} {A : Option Addr} {xs : List Int} (h : IO w base (.slice A n c) xs) : n = xs.length ∧ Is w w.heap.size A xs := by
  obtain ⟨A', c', e, _, _, h'⟩ := h.form
  injection e with e1 e2 e3
  subst e1
  exact ⟨e2, h'⟩
theorem CO.isOf {w : World} {base n c : Nat} {A : Option Addr} {xs : List (Int × Int)} (h : CO w base (.slice A n c) xs) : n = xs.length ∧ Cs w w.heap.size A xs := by
  obtain ⟨A', c', e, _, _, h'⟩ := h.form
  injection e with e1 e2 e3
  subst e1
  exact ⟨e2, h'⟩
theorem CO.grownR {w w' : World} {base : Nat} {row : Option Nat} {v : Value} {L : List (Int × Int)} (h : CO w base v L) (hg : w.grownBy w' row) (hr : ∀ r, row = some r → r < base) : CO w' base v L := by
  refine ⟨h.1, ?_⟩
  have hl := owns_lt h
  rcases h.2 with h2 | ⟨g, cap, cur, rfl, hgb, hh, rest⟩
  · exact .inl h2
  · have := hl g (by simp [Value.ownBlock])
    exact .inr ⟨g, cap, cur, rfl, hgb, by rw [hg.block g (by omega) (fun e => by have := hr _ e.symm; omega)]; exact hh, rest⟩
theorem comeV_form (L : List (Int × Int)) (t : Int) : ∃ (a b : Int) (q : Bool), comeV L t = .tuple #[.int .i64 a, .int .i64 b, .bool q] := by
  unfold comeV; split
  · exact ⟨_, _, _, rfl⟩
  · exact ⟨_, _, _, rfl⟩

set_option maxHeartbeats 2000000 in
theorem w_FnExactCustomersOk (L : List (Int × Int)) (A : Option Addr) (c : Nat) (w : World) (hA : Cs w w.heap.size A L) (hc0 : L.length ≤ 9223372036854775807) :
    Calls Try.prog 9 #[.slice A L.length c] w fun e w' => e = .returned (.bool true) ∧ Below w.heap.size w w' := by
  by_cases hn : L.length ≤ 1048576
  · have hc : L.length ≤ 140737488351232 := by omega
    go_enter Try.func9, Try.ntmps9
    go_wp2_with fail
    refine (c_sz_yes A L.length c _ _ (by omega) (by omega) hc0).mono ?_
    rintro e w1 ⟨rfl, rfl⟩
    go_wp2_with fail
    refine (c_toCustomerS L A c _ hA hn).mono ?_
    rintro e w1 ⟨v1, rfl, o1, hb1⟩
    have hs1 := hb1.size
    obtain ⟨A1, d1, rfl, hd1, hm1, hA1⟩ := o1.form
    clear o1
    go_wp2_with fail
    refine (c_sCustomersOk L A1 d1 _ hA1 hc).mono ?_
    rintro e w2 ⟨rfl, hb2⟩
    have h2 := hb1.trans (hb2.mono hs1)
    have hs2 := h2.size
    clear hb1 hb2 hA1
    go_wp2_with fail
    refine (c_toCustomerS L A c _ ((hA.below h2).more hs2) hn).mono ?_
    rintro e w3 ⟨v3, rfl, o3, hb3⟩
    have h3 := h2.trans (hb3.mono hs2)
    have hs3 := h3.size
    obtain ⟨A3, d3, rfl, hd3, hm3, hA3⟩ := o3.form
    clear o3 hb3 h2
    go_wp2_with fail
    refine (c_iCustomersOk L A3 d3 _ hA3 hc).mono ?_
    rintro e w4 ⟨rfl, hb4⟩
    have h4 := h3.trans (hb4.mono hs3)
    have hA4 := (hA3.below hb4).more hb4.size
    have hs4 := h4.size
    clear hb4 h3 hA3
    go_wp2_with fail
    refine (c_toCustomerS L A c _ ((hA.below h4).more hs4) hn).mono ?_
    rintro e w5 ⟨v5, rfl, o5, hb5⟩
    have h5 := h4.trans (hb5.mono hs4)
    have hs5 := h5.size
    have hA5 := (hA4.below hb5).more hb5.size
    obtain ⟨B5, d5, rfl, -, -, hB5⟩ := o5.form
    clear o5 hb5 h4 hA4
    go_wp2_with fail
    refine (c_eqCustomerS L A3 B5 d3 d5 _ hA5 hB5 hn).mono ?_
    rintro e w6 ⟨rfl, hb6⟩
    go_wp2_with fail
    go_ret
    exact ⟨rfl, h5.trans (hb6.mono hs5)⟩
  · go_enter Try.func9, Try.ntmps9
    go_wp2_with fail
    refine (c_sz_no A L.length c _ _ (by omega) (by omega) (by omega) hc0).mono ?_
    rintro e w1 ⟨rfl, rfl⟩
    go_wp2_with fail
    go_ret
    exact ⟨rfl, Below.refl _ _⟩

set_option maxHeartbeats 2000000 in
theorem w_FnExactNeedOf (L : List (Int × Int)) (A : Option Addr) (c : Nat) (w : World) (hA : Cs w w.heap.size A L) (hc0 : L.length ≤ 9223372036854775807) :
    Calls Try.prog 10 #[.slice A L.length c] w fun e w' => e = .returned (.bool true) ∧ Below w.heap.size w w' := by
  by_cases hn : L.length ≤ 1048576
  · have hc : L.length ≤ 140737488351232 := by omega
    go_enter Try.func10, Try.ntmps10
    go_wp2_with fail
    refine (c_sz_yes A L.length c _ _ (by omega) (by omega) hc0).mono ?_
    rintro e w1 ⟨rfl, rfl⟩
    go_wp2_with fail
    refine (c_toCustomerS L A c _ hA hn).mono ?_
    rintro e w1 ⟨v1, rfl, o1, hb1⟩
    have hs1 := hb1.size
    obtain ⟨A1, d1, rfl, hd1, hm1, hA1⟩ := o1.form
    clear o1
    go_wp2_with fail
    refine (c_sNeedOf L A1 d1 _ hA1 hc).mono ?_
    rintro e w2 ⟨rfl, hb2⟩
    have h2 := hb1.trans (hb2.mono hs1)
    have hs2 := h2.size
    clear hb1 hb2 hA1
    go_wp2_with fail
    refine (c_toCustomerS L A c _ ((hA.below h2).more hs2) hn).mono ?_
    rintro e w3 ⟨v3, rfl, o3, hb3⟩
    have h3 := h2.trans (hb3.mono hs2)
    have hs3 := h3.size
    obtain ⟨A3, d3, rfl, hd3, hm3, hA3⟩ := o3.form
    clear o3 hb3 h2
    go_wp2_with fail
    refine (c_iNeedOf L A3 d3 _ hA3 hc).mono ?_
    rintro e w4 ⟨rfl, hb4⟩
    have h4 := h3.trans (hb4.mono hs3)
    have hA4 := (hA3.below hb4).more hb4.size
    have hs4 := h4.size
    clear hb4 h3 hA3
    go_wp2_with fail
    refine (c_toCustomerS L A c _ ((hA.below h4).more hs4) hn).mono ?_
    rintro e w5 ⟨v5, rfl, o5, hb5⟩
    have h5 := h4.trans (hb5.mono hs4)
    have hs5 := h5.size
    have hA5 := (hA4.below hb5).more hb5.size
    obtain ⟨B5, d5, rfl, -, -, hB5⟩ := o5.form
    clear o5 hb5 h4 hA4
    go_wp2_with fail
    refine (c_eqCustomerS L A3 B5 d3 d5 _ hA5 hB5 hn).mono ?_
    rintro e w6 ⟨rfl, hb6⟩
    go_wp2_with fail
    go_ret
    exact ⟨rfl, h5.trans (hb6.mono hs5)⟩
  · go_enter Try.func10, Try.ntmps10
    go_wp2_with fail
    refine (c_sz_no A L.length c _ _ (by omega) (by omega) (by omega) hc0).mono ?_
    rintro e w1 ⟨rfl, rfl⟩
    go_wp2_with fail
    go_ret
    exact ⟨rfl, Below.refl _ _⟩


theorem c_iComeByV (L : List (Int × Int)) (A : Option Addr) (c : Nat) (t a b : Int) (q : Bool) (hV : comeV L t = .tuple #[.int .i64 a, .int .i64 b, .bool q]) (w : World) (hA : Cs w w.heap.size A L) (hn : L.length ≤ c) (hc' : L.length ≤ 140737488351232) :
    Calls Try.prog 23 #[.slice A L.length c, .int .i64 t] w fun e w' => e = .returned (.tuple #[.int .i64 a, .int .i64 b, .bool q]) ∧ Below w.heap.size w w' := by rw [← hV]; exact c_iComeBy L A c t w hA hn hc'
theorem c_sComeByV (L : List (Int × Int)) (A : Option Addr) (c : Nat) (t a b : Int) (q : Bool) (hV : comeV L t = .tuple #[.int .i64 a, .int .i64 b, .bool q]) (w : World) (hA : Cs w w.heap.size A L) (hn : L.length ≤ c) (hc' : L.length ≤ 140737488351232) :
    Calls Try.prog 24 #[.slice A L.length c, .int .i64 t] w fun e w' => e = .returned (.tuple #[.int .i64 a, .int .i64 b, .bool q]) ∧ Below w.heap.size w w' := by rw [← hV]; exact c_sComeBy L A c t w hA hn hc'
set_option maxHeartbeats 2000000 in
theorem w_FnExactComeBy (L : List (Int × Int)) (A : Option Addr) (c : Nat) (t : Int) (w : World) (hA : Cs w w.heap.size A L) (hc0 : L.length ≤ 9223372036854775807) (ht : -9223372036854775808 ≤ t ∧ t ≤ 9223372036854775807) :
    Calls Try.prog 11 #[.slice A L.length c, .int .i64 t] w fun e w' => e = .returned (.bool true) ∧ Below w.heap.size w w' := by
  obtain ⟨va, vb, vq, hV⟩ := comeV_form L t
  have HV := Lib.hid hV; clear hV
  by_cases hn : L.length ≤ 1048576
  · have hc : L.length ≤ 140737488351232 := by omega
    go_enter Try.func11, Try.ntmps11
    go_wp2_with fail
    refine (c_sz_yes A L.length c _ _ (by omega) (by omega) hc0).mono ?_
    rintro e w1 ⟨rfl, rfl⟩
    go_wp2_with fail
    refine (c_toCustomerS L A c _ hA hn).mono ?_
    rintro e w1 ⟨v1, rfl, o1, hb1⟩
    have hs1 := hb1.size
    obtain ⟨A1, d1, rfl, hd1, hm1, hA1⟩ := o1.form
    clear o1
    go_wp2_with fail
    refine (c_sComeByV L A1 d1 t va vb vq HV.out _ hA1 hd1 hc).mono ?_
    rintro e w2 ⟨rfl, hb2⟩
    have h2 := hb1.trans (hb2.mono hs1)
    have hs2 := h2.size
    clear hb1 hb2 hA1
    go_wp2_with fail
    refine (c_toCustomerS L A c _ ((hA.below h2).more hs2) hn).mono ?_
    rintro e w3 ⟨v3, rfl, o3, hb3⟩
    have h3 := h2.trans (hb3.mono hs2)
    have hs3 := h3.size
    obtain ⟨A3, d3, rfl, hd3, hm3, hA3⟩ := o3.form
    clear o3 hb3 h2
    go_wp2_with fail
    refine (c_iComeByV L A3 d3 t va vb vq HV.out _ hA3 hd3 hc).mono ?_
    rintro e w4 ⟨rfl, hb4⟩
    have h4 := h3.trans (hb4.mono hs3)
    have hA4 := (hA3.below hb4).more hb4.size
    have hs4 := h4.size
    clear hb4 h3 hA3
    go_wp2_with fail
    refine (c_toCustomerS L A c _ ((hA.below h4).more hs4) hn).mono ?_
    rintro e w5 ⟨v5, rfl, o5, hb5⟩
    have h5 := h4.trans (hb5.mono hs4)
    have hs5 := h5.size
    have hA5 := (hA4.below hb5).more hb5.size
    obtain ⟨B5, d5, rfl, -, -, hB5⟩ := o5.form
    clear o5 hb5 h4 hA4
    go_wp2_with fail
    refine (c_eqCustomerS L A3 B5 d3 d5 _ hA5 hB5 hn).mono ?_
    rintro e w6 ⟨rfl, hb6⟩
    go_wp2_with fail
    go_ret
    exact ⟨rfl, h5.trans (hb6.mono hs5)⟩
  · go_enter Try.func11, Try.ntmps11
    go_wp2_with fail
    refine (c_sz_no A L.length c _ _ (by omega) (by omega) (by omega) hc0).mono ?_
    rintro e w1 ⟨rfl, rfl⟩
    go_wp2_with fail
    go_ret
    exact ⟨rfl, Below.refl _ _⟩


end Go.Proofs.Ytjganggebdpceaa

/- walks of the laws of chapter 7, third part: FnByRatio, FnSwappedAt -/
import Derived.Test.YtckebkaaokfonaaKN
import Derived.Test.YtckebkaaokfonaaI6
import Derived.Test.YtckebkaaokfonaaH
namespace Go.Proofs.Ytckebkaaokfonaa
set_option linter.unusedVariables false
open Go.RowKit
attribute [local go_sem ↓] Go.wp_at_zero Go.wp_at_succ

set_option maxHeartbeats 4000000 in
theorem w_FnByRatio (A : Option Addr) (n c : Nat) (w : World) (h : Bs w w.heap.size A n) (hc : n ≤ c) :
    Calls Try.prog 6 #[.slice A n c] w fun e w' => e = .returned (.bool true) ∧ Below w.heap.size w w' := by
  by_cases hn : n ≤ 1048576
  · go_enter Try.func6, Try.ntmps6
    go_wp2_with fail
    refine (c_DrawByRatio A n c _ h hn hc).mono ?_
    rintro e w1 ⟨L, v, rfl, hv, hl, hb1⟩
    obtain ⟨D, d, rfl, hd1, hd2, hD⟩ := hv.form
    have hs1 := hb1.size
    have hrl := ratioV_len L
    clear hv h
    go_wp2_with fail
    refine (c_iByRatio L D d _ hD (by omega)).mono ?_
    rintro e w2 ⟨v2, rfl, o2, hb2⟩
    have k2 := hb1.trans (hb2.mono hs1)
    have hs2 := k2.size
    have hD2 := (hD.below hb2).more hb2.size
    obtain ⟨G, g, rfl, hg1, hg2, hG⟩ := o2.form
    clear hb1 hb2 hD o2
    go_wp2_with fail
    refine (c_sByRatio L D d _ hD2 (by omega)).mono ?_
    rintro e w3 ⟨v3, rfl, o3, hb3⟩
    have k3 := k2.trans (hb3.mono hs2)
    have hs3 := k3.size
    have hD3 := (hD2.below hb3).more hb3.size
    have hG3 := (hG.below hb3).more hb3.size
    obtain ⟨S, s, rfl, hg4, hg5, hS⟩ := o3.form
    clear k2 hb3 hD2 hG o3
    go_wp2_with fail
    refine (c_sameInts (ratioV L) G S _ _ g s _ hG3 hS (by omega)).mono ?_
    rintro e w4 ⟨rfl, hb4⟩
    have k4 := k3.trans (hb4.mono hs3)
    have hs4 := k4.size
    have hD4 := (hD3.below hb4).more hb4.size
    have hG4 := (hG3.below hb4).more hb4.size
    clear k3 hb4 hD3 hG3 hS
    cases ht : tOk L with
    | true =>
      have hR := ratioV_yes ht
      have hE := byR_each ht
      have hW := leastW_ratio ht
      have hlp := (tOk_parts ht).2.1
      have hln : (ratioV L).length = L.length := by rw [hR, byR_len]
      have hz : (((ratioV L).length : Int) == 0) = false := beq_eq_false_iff_ne.2 (by omega)
      rw [← hR] at hE hW
      have HE := Lib.hid hE
      have HW := Lib.hid hW
      have KE := fun W hW => c_iEachOnce (ratioV L) G g (L.length : Int) W hW (by omega)
      rw [HE.out] at KE
      have KW := fun W h1 h2 => c_iWeightedSum L (ratioV L) D G d g W h1 h2 (by omega) (by omega)
      rw [← HW.out] at KW
      have HKE := Lib.hid KE
      have HKW := Lib.hid KW
      have hlw : (leastW L == leastW L) = true := by simp
      have HLN := Lib.hid hln
      rw [hln] at HKE HKW hz hg1 ⊢
      clear ht hR hE hW KE KW hln hrl hg4
      go_wp2_with fail
      refine (HKE.out _ hG4).mono ?_
      rintro e w5 ⟨rfl, hb5⟩
      have k5 := k4.trans (hb5.mono hs4)
      have hs5 := k5.size
      have hD5 := (hD4.below hb5).more hb5.size
      have hG5 := (hG4.below hb5).more hb5.size
      clear k4 hb5 hD4 hG4
      go_wp2_with fail
      refine (HKW.out _ hD5 hG5).mono ?_
      rintro e w6 ⟨rfl, hb6⟩
      have k6 := k5.trans (hb6.mono hs5)
      have hs6 := k6.size
      have hD6 := (hD5.below hb6).more hb6.size
      clear k5 hb6 hD5 hG5
      go_wp2_with fail
      refine (c_iLeastWeighted L D d _ hD6 (by omega)).mono ?_
      rintro e w7 ⟨rfl, hb7⟩
      go_wp2_with fail
      go_ret
      exact ⟨by simp, k6.trans (hb7.mono hs6)⟩
    | false =>
      have hR := ratioV_no ht
      have KT := c_iTasksOk L D d w4 hD4 (by omega)
      rw [ht] at KT
      have HKT := Lib.hid KT
      have hz : (ratioV L).length = 0 := by rw [hR]; rfl
      rw [hz]
      clear ht KT hR hrl hg1 hg4
      go_wp2_with fail
      refine HKT.out.mono ?_
      rintro e w5 ⟨rfl, hb5⟩
      have k5 := k4.trans (hb5.mono hs4)
      go_wp2_with fail
      refine (c_alive _).mono ?_
      rintro e w6 ⟨rfl, hb6⟩
      go_wp2_with fail
      go_ret
      exact ⟨rfl, k5.trans (hb6.mono k5.size)⟩
  · go_enter Try.func6, Try.ntmps6
    go_wp2_with fail
    go_ret
    exact ⟨rfl, Below.refl _ _⟩

set_option maxHeartbeats 4000000 in
theorem w_FnSwappedAt (A : Option Addr) (n c : Nat) (w : World) (h : Bs w w.heap.size A n) (hc : n ≤ c) :
    Calls Try.prog 8 #[.slice A n c] w fun e w' => e = .returned (.bool true) ∧ Below w.heap.size w w' := by
  by_cases hn : n ≤ 1048576
  · go_enter Try.func8, Try.ntmps8
    go_wp2_with fail
    refine (c_DrawSwappedAt A n c _ h hn hc).mono ?_
    rintro e w1 ⟨o, v, t, rfl, hv, hl, ht, hb1⟩
    obtain ⟨D, d, rfl, hd1, hd2, hD⟩ := hv.form
    have hs1 := hb1.size
    clear hv h
    go_wp2_with fail
    refine (c_iSwappedAt o D d t _ hD (by omega)).mono ?_
    rintro e w2 ⟨v2, rfl, o2, hb2⟩
    have k2 := hb1.trans (hb2.mono hs1)
    have hs2 := k2.size
    have hD2 := (hD.below hb2).more hb2.size
    obtain ⟨G, g, rfl, hg1, hg2, hG⟩ := o2.form
    simp only [swapV]
    clear hb1 hb2 hD o2
    go_wp2_with fail
    refine (c_sSwappedAt o D d t _ hD2 (by omega)).mono ?_
    rintro e w3 ⟨v3, rfl, o3, hb3⟩
    have k3 := k2.trans (hb3.mono hs2)
    have hs3 := k3.size
    have hD3 := (hD2.below hb3).more hb3.size
    have hG3 := (hG.below hb3).more hb3.size
    obtain ⟨S, s, rfl, hg4, hg5, hS⟩ := o3.form
    simp only [swapV]
    have hsl : (swapR o t).length ≤ 6 := by
      cases hx : swapOk o t with
      | true => rw [swapR_yes hx, swapL_len]; exact hl
      | false => rw [swapR_no hx]; simp
    have HSL := Lib.hid hsl
    have HSI := Lib.hid (c_sameInts (swapR o t) G S _ _ g s _ hG3 hS (by omega))
    have hne : (swapOk o t != swapOk o t) = false := by simp
    clear k2 hb3 hD2 hG o3 hsl
    go_wp2_with fail
    refine HSI.out.mono ?_
    rintro e w4 ⟨rfl, hb4⟩
    have k4 := k3.trans (hb4.mono hs3)
    have hs4 := k4.size
    have hD4 := (hD3.below hb4).more hb4.size
    have hG4 := (hG3.below hb4).more hb4.size
    clear k3 hb4 hD3 hG3 hS
    cases hok : swapOk o t with
    | true =>
      obtain ⟨he, h1, h2⟩ := swapOk_parts hok
      have hk2 : t.toNat + 1 < o.length := by omega
      have hR := swapR_yes hok
      have hX := swapL_each hk2 he
      have hbk := swapL_swap hk2
      have hln : (swapR o t).length = o.length := by rw [hR, swapL_len]
      have hok2 : swapOk (swapR o t) t = true := by
        rw [hR]; simp only [swapOk, swapL_len, hX]; simp; omega
      have hR2 : swapR (swapR o t) t = o := by rw [swapR_yes hok2, hR, hbk]
      rw [← hR] at hX
      have KS := fun W hW => c_iSwappedAt (swapR o t) G g t W hW (by omega)
      rw [hok2, hR2] at KS
      have KE := fun W hW => c_iEachOnce (swapR o t) G g (o.length : Int) W hW (by omega)
      rw [hX] at KE
      have HKS := Lib.hid KS
      have HKE := Lib.hid KE
      rw [hln] at HKS HKE hg1 ⊢
      clear hok he h1 h2 hk2 hR hX hbk hok2 hR2 KS KE hln HSI hne hg4
      go_wp2_with fail
      refine (HKS.out _ hG4).mono ?_
      rintro e w5 ⟨v5, rfl, o5, hb5⟩
      have k5 := k4.trans (hb5.mono hs4)
      have hs5 := k5.size
      have hD5 := (hD4.below hb5).more hb5.size
      have hG5 := (hG4.below hb5).more hb5.size
      obtain ⟨T, q, rfl, hq1, hq2, hT⟩ := o5.form
      simp only [swapV]
      clear k4 hb5 hD4 hG4 o5
      go_wp2_with fail
      refine (HKE.out _ hG5).mono ?_
      rintro e w6 ⟨rfl, hb6⟩
      have k6 := k5.trans (hb6.mono hs5)
      have hs6 := k6.size
      have hD6 := (hD5.below hb6).more hb6.size
      have hT6 := (hT.below hb6).more hb6.size
      clear k5 hb6 hD5 hG5 hT
      go_wp2_with fail
      refine (c_sameInts o T D _ _ q d _ hT6 hD6 (by omega)).mono ?_
      rintro e w7 ⟨rfl, hb7⟩
      go_wp2_with fail
      go_ret
      exact ⟨rfl, k6.trans (hb7.mono hs6)⟩
    | false =>
      have hz : (swapR o t).length = 0 := by rw [swapR_no hok]; rfl
      rw [hz]
      clear hok hg1 hg4 HSI hne
      go_wp2_with fail
      refine (c_alive _).mono ?_
      rintro e w6 ⟨rfl, hb6⟩
      go_wp2_with fail
      go_ret
      exact ⟨rfl, k4.trans (hb6.mono hs4)⟩
  · go_enter Try.func8, Try.ntmps8
    go_wp2_with fail
    go_ret
    exact ⟨rfl, Below.refl _ _⟩

end Go.Proofs.Ytckebkaaokfonaa


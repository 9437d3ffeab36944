/- walks of the laws of chapter 1, second part: FnNeedOf, FnComeBy -/
import Derived.Test.YtjganggebdpceaaW1
import Derived.Test.YtjganggebdpceaaI2
import Derived.Test.YtjganggebdpceaaV1
import Derived.Test.YtjganggebdpceaaQ
namespace Go.Proofs.Ytjganggebdpceaa
set_option linter.unusedVariables false
open Go.RowKit
attribute [local go_sem ↓] Go.wp_at_zero Go.wp_at_succ

theorem needOf_no {L : List (Int × Int)} (h : cOk L = false) : needOf L = -1 := by simp [needOf, h]
theorem needOf_yes {L : List (Int × Int)} (h : cOk L = true) : needOf L = sumTo L L.length := by simp [needOf, h]
theorem needOf_bd {L : List (Int × Int)} (h : cOk L = true) : 0 ≤ needOf L ∧ needOf L ≤ 72 := by
  have := sumTo_bd h L.length (Nat.le_refl _)
  have := cOk_len h
  rw [needOf_yes h]; omega

set_option maxHeartbeats 4000000 in
theorem w_FnNeedOf (A : Option Addr) (n c : Nat) (w : World) (h : Bs w w.heap.size A n) (hc : n ≤ c) :
    Calls Try.prog 4 #[.slice A n c] w fun e w' => e = .returned (.bool true) ∧ Below w.heap.size w w' := by
  by_cases hn : n ≤ 1048576
  · go_enter Try.func4, Try.ntmps4
    go_wp2_with fail
    refine (c_DrawNeedOf A n c _ h hn hc).mono ?_
    rintro e w1 ⟨L, v, rfl, hv, hl, -, hb1⟩
    obtain ⟨B, d, rfl, hd1, hd2, hB⟩ := hv.form
    have hs1 := hb1.size
    clear hv
    go_wp2_with fail
    refine (c_iNeedOf L B d _ hB (by omega)).mono ?_
    rintro e w2 ⟨rfl, hb2⟩
    have h2 := hb1.trans (hb2.mono hs1)
    have hs2 := h2.size
    have hB2 := (hB.below hb2).more hb2.size
    clear hb1 hb2 hB
    go_wp2_with fail
    refine (c_sNeedOf L B d _ hB2 (by omega)).mono ?_
    rintro e w3 ⟨rfl, hb3⟩
    have h3 := h2.trans (hb3.mono hs2)
    have hs3 := h3.size
    have hB3 := (hB2.below hb3).more hb3.size
    clear h2 hb3 hB2
    by_cases hok : cOk L = true
    · have hbd := needOf_bd hok
      by_cases hL : L.length = 0
      · have hL' : L = [] := List.eq_nil_of_length_eq_zero hL
        subst hL'
        have hN : needOf [] = 0 := by decide
        rw [hN]
        clear hbd hN
        go_wp2_with fail
        refine wp_region_wb w3.heap.size (by kernel_rfl) (by kernel_rfl) ?_
        repeat (go_big_quiet_step ((go_at_call 18; exact Calls.inB (Nat.le_refl _) (c_alive _))))
        refine wpQuiet_nil ?_
        rintro _ ⟨⟨w5, hb5⟩, rfl⟩
        go_wp2_with fail
        go_ret
        exact ⟨rfl, h3.trans (hb5.mono hs3)⟩
      · obtain ⟨T, hT⟩ : ∃ T, T = L.take (L.length - 1) := ⟨_, rfl⟩
        have hTl : T.length = L.length - 1 := by rw [hT]; exact len_take (by omega)
        have hTok : cOk T = true := by rw [hT]; exact cOk_take hok (by omega)
        have hTn : needOf L = needOf T + Y L (L.length - 1) := by
          rw [hT, needOf_take hok (by omega), needOf_yes hok]
          have e : L.length = (L.length - 1) + 1 := by omega
          rw [e]; simp [sumTo]
        have hTb := needOf_bd hTok
        have hYb := cOk_bd hok (k := L.length - 1) (by omega)
        have hCT : Cs w3 w3.heap.size B T := by rw [hT]; exact hB3.take _
        have HTl := Lib.hid hTl; have HTok := Lib.hid hTok; have HTn := Lib.hid hTn; have Hok := Lib.hid hok
        clear hT hTl hTok hTn hok
        obtain ⟨b, off, rfl, hlb, hcl⟩ := hB3 (by omega)
        have c2 := (hcl (L.length - 1) (by omega)).2
        clear hcl hB3
        have k1 : (0 : Int) ≤ (L.length : Int) - 1 := by omega
        have k2 : (L.length : Int) - 1 < (L.length : Int) := by omega
        have k2' : (1 : Int) ≤ (L.length : Int) := by omega
        have k3 : (L.length : Int) - 1 ≤ (d : Int) := by omega
        have hlw : b < w3.heap.size := hlb
        have e1 : (needOf L == needOf T + Y L (L.length - 1)) = true := beq_iff_eq.2 HTn.out
        have hHL : T.length ≤ 140737488351232 := by rw [HTl.out]; omega
        have K := fun W (hW : Cs W W.heap.size (some ⟨b, off, none⟩) T) => c_iNeedOf T _ d W hW hHL
        rw [HTl.out] at K
        have HK := Lib.hid K; clear K
        go_wp2_with fail
        have q6 : ((L.length : Int) - 1).toNat = L.length - 1 := by omega
        have q7 : IntKind.i64.wrap (needOf T + Y L (L.length - 1)) = needOf T + Y L (L.length - 1) := IntWalk.i64_in _ (by omega)
        have q8 : IntKind.i64.wrap ((L.length : Int) - 1) = (L.length : Int) - 1 := IntWalk.i64_in _ (by omega)
        have q9 : decide ((L.length : Int) - 1 < 0) = false := by simp; omega
        have c3 := WB.cell hlw c2
        clear c2
        refine wp_region_wb w3.heap.size (by kernel_rfl) (by kernel_rfl) ?_
        repeat (go_big_quiet_step ((first | (go_at_call 20; exact Calls.inB (Nat.le_refl _) (HK.out _ (WB.cs _ hCT (Nat.le_refl _)))) | (go_at_call 18; exact Calls.inB (Nat.le_refl _) (c_alive _)))))
        refine wpQuiet_nil ?_
        rintro _ ⟨⟨w5, hb5⟩, rfl⟩
        go_wp2_with fail
        go_ret
        exact ⟨rfl, h3.trans (hb5.mono hs3)⟩
    · have hno : cOk L = false := by simpa using hok
      have hN : needOf L = -1 := needOf_no hno
      have HN := Lib.hid hN
      clear hok hno hN
      rw [HN.out]
      go_wp2_with fail
      refine (c_alive _).mono ?_
      rintro e w6 ⟨rfl, hb6⟩
      go_wp2_with fail
      go_ret
      exact ⟨rfl, h3.trans (hb6.mono hs3)⟩
  · go_enter Try.func4, Try.ntmps4
    go_wp2
    go_ret
    exact ⟨rfl, Below.refl _ _⟩

theorem cnt_mono {L : List (Int × Int)} {t u : Int} (h : t ≤ u) : cnt L t ≤ cnt L u := by
  induction L with
  | nil => simp [cnt]
  | cons c L ih =>
    by_cases e : c.1 ≤ t
    · have e2 : c.1 ≤ u := by omega
      have h1 : cnt (c :: L) t = cnt L t + 1 := by simp [cnt, e]
      have h2 : cnt (c :: L) u = cnt L u + 1 := by simp [cnt, e2]
      omega
    · have h1 : cnt (c :: L) t = 0 := by simp [cnt, e]
      omega
theorem cnt_60 {L : List (Int × Int)} (h : cOk L = true) : cnt L 60 = L.length :=
  cnt_of (Nat.le_refl _) (fun j hj => (cOk_bd h hj).2.1) (fun h => absurd h (Nat.lt_irrefl _))
theorem sumTo_mono {L : List (Int × Int)} (h : cOk L = true) {i j : Nat} (hij : i ≤ j) (hj : j ≤ L.length) : sumTo L i ≤ sumTo L j := by
  induction j with
  | zero => obtain rfl : i = 0 := by omega
            exact Int.le_refl _
  | succ j ih =>
    by_cases e : i = j + 1
    · subst e; exact Int.le_refl _
    · have := ih (by omega) (by omega)
      have := cOk_bd h (k := j) (by omega)
      simp only [sumTo]; omega
theorem comeOk_parts {L : List (Int × Int)} {t : Int} (h : comeOk L t = true) : cOk L = true ∧ 0 ≤ t ∧ t ≤ 1000 := by
  simp only [comeOk, Bool.and_eq_true, decide_eq_true_eq] at h; exact h
theorem comeV_next {L : List (Int × Int)} {t : Int} (h : comeOk L t = true) : ∃ (a b : Int) (q : Bool), comeV L (t + 1) = .tuple #[.int .i64 a, .int .i64 b, .bool q] ∧ (q = true → (cnt L t : Int) ≤ a ∧ sumTo L (cnt L t) ≤ b) := by
  obtain ⟨h1, h2, h3⟩ := comeOk_parts h
  by_cases e : comeOk L (t + 1) = true
  · exact ⟨_, _, _, comeV_yes e, fun _ => ⟨by have := cnt_mono (L := L) (show t ≤ t + 1 by omega); omega, sumTo_mono h1 (cnt_mono (by omega)) (cnt_le _ _)⟩⟩
  · exact ⟨_, _, _, comeV_no e, fun h => by cases h⟩

set_option maxHeartbeats 4000000 in
theorem w_FnComeBy (A : Option Addr) (n c : Nat) (w : World) (h : Bs w w.heap.size A n) (hc : n ≤ c) :
    Calls Try.prog 5 #[.slice A n c] w fun e w' => e = .returned (.bool true) ∧ Below w.heap.size w w' := by
  by_cases hn : n ≤ 1048576
  · go_enter Try.func5, Try.ntmps5
    go_wp2_with fail
    refine (c_DrawComeBy A n c _ h hn hc).mono ?_
    rintro e w1 ⟨L, v, t, rfl, hv, hl, -, ⟨ht1, ht2⟩, hb1⟩
    obtain ⟨B, d, rfl, hd1, hd2, hB⟩ := hv.form
    have hs1 := hb1.size
    clear hv
    by_cases hok : comeOk L t = true
    · obtain ⟨h1, h2, h3⟩ := comeOk_parts hok
      have HV := Lib.hid (comeV_yes hok)
      obtain ⟨a, b, q, hq, hqq⟩ := comeV_next hok
      have HQ := Lib.hid hq
      have H60 : comeV L 60 = .tuple #[.int .i64 L.length, .int .i64 (sumTo L L.length), .bool true] := by
        rw [comeV_yes (by simp [comeOk, h1]), cnt_60 h1]
      have H6 := Lib.hid H60
      have hsn := (sumTo_bd h1 (cnt L t) (cnt_le _ _)).1
      have HN := Lib.hid (needOf_yes h1)
      clear hok h1 hq H60
      go_wp2_with fail
      refine (c_iComeByV L B d t _ _ _ HV.out _ hB hd1 (by omega)).mono ?_
      rintro e w2 ⟨rfl, hb2⟩
      have k2 := hb1.trans (hb2.mono hs1)
      have hs2 := k2.size
      have hB2 := (hB.below hb2).more hb2.size
      clear hb1 hb2 hB
      go_wp2_with fail
      refine (c_sComeByV L B d t _ _ _ HV.out _ hB2 hd1 (by omega)).mono ?_
      rintro e w3 ⟨rfl, hb3⟩
      have k3 := k2.trans (hb3.mono hs2)
      have hs3 := k3.size
      have hB3 := (hB2.below hb3).more hb3.size
      clear k2 hb3 hB2
      go_wp2_with fail
      refine (c_iComeByV L B d (t + 1) _ _ _ HQ.out _ hB3 hd1 (by omega)).mono ?_
      rintro e w4 ⟨rfl, hb4⟩
      have k4 := k3.trans (hb4.mono hs3)
      have hs4 := k4.size
      have hB4 := (hB3.below hb4).more hb4.size
      clear k3 hb4 hB3
      go_wp2_with fail
      refine (c_iComeByV L B d 60 _ _ _ H6.out _ hB4 hd1 (by omega)).mono ?_
      rintro e w5 ⟨rfl, hb5⟩
      have k5 := k4.trans (hb5.mono hs4)
      have hs5 := k5.size
      have hB5 := (hB4.below hb5).more hb5.size
      clear k4 hb5 hB4
      cases q with
      | true =>
        obtain ⟨hq1, hq2⟩ := hqq rfl
        clear hqq
        go_wp2_with fail
        refine (c_iNeedOf L B d _ hB5 (by omega)).mono ?_
        rintro e w6 ⟨rfl, hb6⟩
        rw [HN.out]
        have k6 := k5.trans (hb6.mono hs5)
        have hs6 := k6.size
        go_wp2_with fail
        refine (c_alive _).mono ?_
        rintro e w7 ⟨rfl, hb7⟩
        go_wp2_with fail
        go_ret
        exact ⟨rfl, k6.trans (hb7.mono hs6)⟩
      | false =>
        clear hqq
        go_wp2_with fail
        refine (c_iNeedOf L B d _ hB5 (by omega)).mono ?_
        rintro e w6 ⟨rfl, hb6⟩
        rw [HN.out]
        have k6 := k5.trans (hb6.mono hs5)
        have hs6 := k6.size
        go_wp2_with fail
        refine (c_alive _).mono ?_
        rintro e w7 ⟨rfl, hb7⟩
        go_wp2_with fail
        go_ret
        exact ⟨rfl, k6.trans (hb7.mono hs6)⟩
    · have HV := Lib.hid (comeV_no hok)
      clear hok
      go_wp2_with fail
      refine (c_iComeByV L B d t _ _ _ HV.out _ hB hd1 (by omega)).mono ?_
      rintro e w2 ⟨rfl, hb2⟩
      have k2 := hb1.trans (hb2.mono hs1)
      have hs2 := k2.size
      have hB2 := (hB.below hb2).more hb2.size
      clear hb1 hb2 hB
      go_wp2_with fail
      refine (c_sComeByV L B d t _ _ _ HV.out _ hB2 hd1 (by omega)).mono ?_
      rintro e w3 ⟨rfl, hb3⟩
      have k3 := k2.trans (hb3.mono hs2)
      have hs3 := k3.size
      clear k2 hb3 hB2
      go_wp2_with fail
      refine (c_alive _).mono ?_
      rintro e w7 ⟨rfl, hb7⟩
      go_wp2_with fail
      go_ret
      exact ⟨rfl, k3.trans (hb7.mono hs3)⟩
  · go_enter Try.func5, Try.ntmps5
    go_wp2
    go_ret
    exact ⟨rfl, Below.refl _ _⟩
end Go.Proofs.Ytjganggebdpceaa

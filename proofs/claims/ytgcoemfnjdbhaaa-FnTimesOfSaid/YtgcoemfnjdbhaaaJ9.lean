/- walks of the laws of chapter 5, third part: FnTimesOf, FnSpreadOf (over the program's contracts) -/
import Derived.Test.YtgcoemfnjdbhaaaJ8
import Derived.Test.YtgcoemfnjdbhaaaS2
namespace Go.Proofs.Ytgcoemfnjdbhaaa
set_option linter.unusedVariables false
open Go.RowKit
attribute [local go_sem ↓] Go.wp_at_zero Go.wp_at_succ

theorem timesR_len (L : List (Int × Int)) (O : List Int) : (timesR L O).length ≤ L.length := by
  unfold timesR; split
  · rw [timeL_len]; omega
  · simp

set_option maxRecDepth 4000 in
set_option maxHeartbeats 8000000 in
theorem w_FnTimesOf (A : Option Addr) (n c : Nat) (w : World) (h : Bs w w.heap.size A n) (hc : n ≤ c) :
    Calls Try.prog 3 #[.slice A n c] w fun e w' => e = .returned (.bool true) ∧ Below w.heap.size w w' := by
  by_cases hn : n ≤ 1048576
  · go_enter Try.func3, Try.ntmps3
    go_wp2_with fail
    refine (c_DrawTimesOf A n c _ h hn hc).mono ?_
    rintro e w1 ⟨L, v, O, B, d, rfl, hv, hl, -, hO, ho, hd, hb1⟩
    obtain ⟨D, dd, rfl, hd1, hd2, hD⟩ := hv.form
    have hs1 := hb1.size
    clear hv h
    go_wp2_with fail
    refine (c_iTimesOf L O D B dd d _ hD hO (by omega) (by omega)).mono ?_
    rintro e w2 ⟨v2, rfl, o2, hb2⟩
    have k2 := hb1.trans (hb2.mono hs1)
    have hs2 := k2.size
    have hD2 := (hD.below hb2).more hb2.size
    have hO2 := (hO.below hb2).more hb2.size
    have hEl := timesR_len L O
    obtain ⟨G, g, rfl, -, -, hG⟩ := o2.form
    clear hb1 hb2 hD hO o2
    go_wp2_with fail
    refine (c_sTimesOf L O D B dd d _ hD2 hO2 (by omega) (by omega)).mono ?_
    rintro e w3 ⟨v3, rfl, o3, hb3⟩
    have k3 := k2.trans (hb3.mono hs2)
    have hs3 := k3.size
    have hD3 := (hD2.below hb3).more hb3.size
    have hG3 := (hG.below hb3).more hb3.size
    obtain ⟨G3, g3, rfl, -, -, hI3⟩ := o3.form
    clear k2 hb3 hD2 hG o3 hO2
    go_wp2_with fail
    refine (c_sameInts (timesR L O) G G3 _ _ g g3 _ hG3 hI3 (by omega)).mono ?_
    rintro e w4 ⟨rfl, hb4⟩
    have k4 := k3.trans (hb4.mono hs3)
    have hs4 := k4.size
    have hD4 := (hD3.below hb4).more hb4.size
    have hG4 := (hG3.below hb4).more hb4.size
    clear k3 hb4 hD3 hG3 hI3
    by_cases h0 : (timesR L O).length = 0
    · have h0b : (((timesR L O).length : Int) == 0) = true := beq_iff_eq.2 (by omega)
      clear h0
      go_wp2_with fail
      refine (c_alive _).mono ?_
      rintro e w6 ⟨rfl, hb6⟩
      go_wp2_with fail
      go_ret
      exact ⟨rfl, k4.trans (hb6.mono hs4)⟩
    · have hok : ordOk L O = true := by
        cases hx : ordOk L O with
        | true => rfl
        | false => rw [timesR_no hx] at h0; exact absurd rfl h0
      have hcok := (ordOk_parts hok).1
      have hR0 := orderR_ord5 hcok (k := 0) (by omega)
      rw [timesR_yes hok] at h0 hG4 ⊢
      rw [timeL_len] at h0 ⊢
      have HG4 : Is w4 w4.heap.size G (timeL L O L.length) := hG4
      have h0b : ((L.length : Int) == 0) = false := beq_eq_false_iff_ne.2 (by omega)
      have hLb : ((L.length : Int) == (L.length : Int)) = true := by simp
      have hLn : ((L.length : Int) != (L.length : Int)) = false := by simp
      have Hb := Lib.hid (fun k (hk : k < L.length) => time_bd hok hk)
      have Hc := Lib.hid (fun k (hk : k < L.length) => cOk_bd hcok hk)
      have Hf := Lib.hid (fun k (hk : k < L.length) => time_first hcok hk)
      have Hw := Lib.hid (fun k (hk : k < L.length) => waitAt_bd hcok k hk)
      have HF := Lib.hid (show timesR L (orderR L 0) = timeL L (orderR L 0) L.length from timesR_yes hR0)
      have HW := Lib.hid (waits_yes hcok)
      have hRl := orderR_len L 0
      clear hG4 hok hcok hEl hR0
      go_wp2_with fail
      refine (c_sOrderBy L D dd 0 _ hD4 (by omega)).mono ?_
      rintro e w5 ⟨v5, rfl, o5, hb5⟩
      have k5 := k4.trans (hb5.mono hs4)
      have hs5 := k5.size
      have hD5 := (hD4.below hb5).more hb5.size
      have hG5 := (HG4.below hb5).more hb5.size
      obtain ⟨E5, e5, rfl, -, -, hI5⟩ := o5.form
      clear k4 hb5 hD4 HG4 o5
      go_wp2_with fail
      refine (c_iTimesOf L (orderR L 0) D E5 dd e5 _ hD5 hI5 (by omega) (by omega)).mono ?_
      rintro e w6 ⟨v6, rfl, o6, hb6⟩
      have k6 := k5.trans (hb6.mono hs5)
      have hs6 := k6.size
      have hD6 := (hD5.below hb6).more hb6.size
      have hG6 := (hG5.below hb6).more hb6.size
      rw [HF.out] at o6
      obtain ⟨F, f6, rfl, -, -, hF6⟩ := o6.form
      rw [timeL_len]
      clear k5 hb6 hD5 hG5 o6 hI5
      go_wp2_with fail
      refine (c_sWaitsOf L D dd _ hD6 (by omega)).mono ?_
      rintro e w7 ⟨v7, rfl, o7, hb7⟩
      have k7 := k6.trans (hb7.mono hs6)
      have hs7 := k7.size
      have hD7 := (hD6.below hb7).more hb7.size
      have hG7 := (hG6.below hb7).more hb7.size
      have hF7 := (hF6.below hb7).more hb7.size
      rw [HW.out] at o7
      obtain ⟨Q, q7', rfl, -, -, hQ7⟩ := o7.form
      rw [waitsTo_len]
      clear k6 hb7 hD6 hG6 hF6 o7
      go_wp2_with fail
      go_loopw [8] (fun i wr => ∃ k : Nat, k ≤ L.length ∧ i = .int .i64 k ∧ Below w7.heap.size w7 wr) (fun i _ => L.length - (intOf i).toNat)
      case atStart => exact ⟨0, by omega, rfl, Below.refl _ _⟩
      case round =>
        obtain ⟨k, hk, rfl, hb⟩ := hrel
        have hsz := hb.size
        by_cases hlt : k < L.length
        · obtain ⟨gb, go, rfl, hgb, hgc⟩ := hG7 (by rw [timeL_len]; omega)
          obtain ⟨fb, fo, rfl, hfb, hfc⟩ := hF7 (by rw [timeL_len]; omega)
          obtain ⟨qb, qo, rfl, hqb, hqc⟩ := hQ7 (by rw [waitsTo_len]; omega)
          obtain ⟨b, off, rfl, hlb, hlc⟩ := hD7 (by omega)
          have c1 := (hb.cell (p := ⟨gb, go + k, none⟩) hgb).trans (hgc k (by rw [timeL_len]; exact hlt))
          have c2 := (hb.cell (p := ⟨fb, fo + k, none⟩) hfb).trans (hfc k (by rw [timeL_len]; exact hlt))
          have c3 := (hb.cell (p := ⟨qb, qo + k, none⟩) hqb).trans (hqc k (by rw [waitsTo_len]; exact hlt))
          have c4 := (hb.cell (p := ⟨b, off + k * 2 + 1, none⟩) hlb).trans (hlc k hlt).2
          have ew : Z (waitsTo L L.length) k = waitAt L k := by simp [Z, waitsTo, hlt]
          rw [timeL_Z hlt] at c1 c2
          rw [Hf.out k hlt] at c2
          rw [ew] at c3
          have tb := Hb.out k hlt
          have cb := Hc.out k hlt
          have wb := Hw.out k hlt
          have dn : decide (endTo O k O.length - X L k < Y L k) = false := decide_eq_false (by omega)
          have dq : (waitAt L k + Y L k != waitAt L k + Y L k) = false := by simp
          have q7 : IntKind.i64.wrap (waitAt L k + Y L k) = waitAt L k + Y L k := IntWalk.i64_in _ (by omega)
          have p1 : (0 : Int) ≤ (k : Int) := by omega
          have p2 : (k : Int) < (L.length : Int) := by omega
          clear hgc hfc hqc hlc tb cb wb ew
          go_wp2_with fail
          go_quiet (fail)
          have hbq : Below w7.heap.size w7 (wr.drewN nq) := by (repeat (first | exact hb | exact Below.refl _ _ | (with_reducible refine Below.drew ?_) | (with_reducible refine Below.drewN ?_ _) | (with_reducible refine Below.alloc ?_ ?_ _) | (with_reducible refine Below.setCell ?_ ?_ _) | (show _ ≤ _; focus (first | omega | (simp; done) | (simp; omega)))))
          generalize wr.drewN nq = wq at hbq ⊢
          clear hb c1 c2 c3 c4 dn dq q7
          go_wp2_with fail
          go_roundw
          case rel => exact ⟨k + 1, by omega, by go_num, hbq⟩
          case measure => simp [intOf]; omega
        · have hlf : ¬ ((k : Int) < (L.length : Int)) := by omega
          have kr := k7.trans (hb.mono hs7)
          clear hb
          go_wp2_with fail
          go_ret
          exact ⟨rfl, kr⟩
  · go_enter Try.func3, Try.ntmps3
    go_wp2_with fail
    go_ret
    exact ⟨rfl, Below.refl _ _⟩

set_option maxRecDepth 4000 in
set_option maxHeartbeats 8000000 in
theorem w_FnSpreadOf (A : Option Addr) (n c : Nat) (w : World) (h : Bs w w.heap.size A n) (hc : n ≤ c) :
    Calls Try.prog 7 #[.slice A n c] w fun e w' => e = .returned (.bool true) ∧ Below w.heap.size w w' := by
  by_cases hn : n ≤ 1048576
  · go_enter Try.func7, Try.ntmps7
    go_wp2_with fail
    refine (c_DrawSpreadOf A n c _ h hn hc).mono ?_
    rintro e w1 ⟨L, v, O, B, d, rfl, hv, hl, -, hO, ho, hd, hb1⟩
    obtain ⟨D, dd, rfl, hd1, hd2, hD⟩ := hv.form
    have hs1 := hb1.size
    clear hv h
    go_wp2_with fail
    refine (c_iSpreadOf L O D B dd d _ hD hO (by omega) (by omega)).mono ?_
    rintro e w2 ⟨rfl, hb2⟩
    have k2 := hb1.trans (hb2.mono hs1)
    have hs2 := k2.size
    have hD2 := (hD.below hb2).more hb2.size
    have hO2 := (hO.below hb2).more hb2.size
    clear hb1 hb2 hD hO
    go_wp2_with fail
    refine (c_sSpreadOf L O D B dd d _ hD2 hO2 (by omega) (by omega)).mono ?_
    rintro e w3 ⟨rfl, hb3⟩
    have k3 := k2.trans (hb3.mono hs2)
    have hs3 := k3.size
    have hD3 := (hD2.below hb3).more hb3.size
    have hO3 := (hO2.below hb3).more hb3.size
    clear k2 hb3 hD2 hO2
    cases hok : ordOk L O with
    | true =>
      have hcok := (ordOk_parts hok).1
      have hlen := cOk_len hcok
      have HE := Lib.hid (timesR_yes hok)
      have f0 := spTo_bd hok L.length (Nat.le_refl _)
      have fz := spTo_zero hok L.length (Nat.le_refl _)
      have KT := Lib.hid (c_iTimesOf L O D B dd d w3 hD3 hO3 (by omega) (by omega))
      rw [spreadV_yes hok]
      clear hok hcok
      have HZ := Lib.hid (show ((spTo L O L.length == 0) == sameTo L O L.length) = true by
        cases hs : sameTo L O L.length with
        | true => rw [fz.2 hs]; rfl
        | false =>
          have : spTo L O L.length ≠ 0 := fun e => by rw [fz.1 e] at hs; cases hs
          rw [beq_eq_false_iff_ne.2 this]; rfl)
      clear fz
      generalize spTo L O L.length = sv at *
      have hne : (sv != sv) = false := by simp
      have d0 : decide (sv < 0) = false := decide_eq_false (by omega)
      have d1 : decide (sv ≤ (O.length : Int)) = true := decide_eq_true f0.2
      have hLb : ((L.length : Int) == (L.length : Int)) = true := by simp
      go_wp2_with fail
      refine KT.out.mono ?_
      rintro e w4 ⟨v4, rfl, o4, hb4⟩
      have k4 := k3.trans (hb4.mono hs3)
      have hs4 := k4.size
      have hD4 := (hD3.below hb4).more hb4.size
      rw [HE.out] at o4
      obtain ⟨G, g, rfl, -, -, hG⟩ := o4.form
      rw [timeL_len]
      clear k3 hb4 hD3 hO3 o4 KT
      go_wp2_with fail
      go_loopw [7, 8] (fun s i wr => ∃ k : Nat, k ≤ L.length ∧ i = .int .i64 k ∧ s = .bool (sameTo L O k) ∧ Below w4.heap.size w4 wr) (fun _ i _ => L.length - (intOf i).toNat)
      case atStart => exact ⟨0, by omega, rfl, by simp [sameTo], Below.refl _ _⟩
      case round =>
        obtain ⟨k, hk, rfl, rfl, hb⟩ := hrel
        have hsz := hb.size
        by_cases hlt : k < L.length
        · obtain ⟨gb, go, rfl, hgb, hgc⟩ := hG (by rw [timeL_len]; omega)
          obtain ⟨b, off, rfl, hlb, hlc⟩ := hD4 (by omega)
          have c1 := (hb.cell (p := ⟨gb, go + k, none⟩) hgb).trans (hgc k (by rw [timeL_len]; exact hlt))
          have c4 := (hb.cell (p := ⟨b, off + k * 2 + 1, none⟩) hlb).trans (hlc k hlt).2
          rw [timeL_Z hlt] at c1
          have p1 : (0 : Int) ≤ (k : Int) := by omega
          have p2 : (k : Int) < (L.length : Int) := by omega
          have hS : sameTo L O (k + 1) = (sameTo L O k && decide (endTo O k O.length - X L k = Y L k)) := rfl
          clear hgc hlc
          cases hsm : sameTo L O k with
          | true =>
            rw [hsm, Bool.true_and] at hS
            by_cases he : endTo O k O.length - X L k = Y L k
            · have HS := Lib.hid (show sameTo L O (k + 1) = true by rw [hS]; exact decide_eq_true he)
              rw [he] at c1
              have de : (Y L k == Y L k) = true := by simp
              clear hS he hsm
              go_wp2_with fail
              go_quiet (fail)
              have hbq : Below w4.heap.size w4 (wr.drewN nq) := by (repeat (first | exact hb | exact Below.refl _ _ | (with_reducible refine Below.drew ?_) | (with_reducible refine Below.drewN ?_ _) | (with_reducible refine Below.alloc ?_ ?_ _) | (with_reducible refine Below.setCell ?_ ?_ _) | (show _ ≤ _; focus (first | omega | (simp; done) | (simp; omega)))))
              generalize wr.drewN nq = wq at hbq ⊢
              clear hb c1 c4 de
              go_wp2_with fail
              go_roundw
              case rel => exact ⟨k + 1, by omega, by go_num, by rw [HS.out], hbq⟩
              case measure => simp [intOf]; omega
            · have HS := Lib.hid (show sameTo L O (k + 1) = false by rw [hS]; exact decide_eq_false he)
              have de : (endTo O k O.length - X L k == Y L k) = false := beq_eq_false_iff_ne.2 he
              clear hS he hsm
              go_wp2_with fail
              go_quiet (fail)
              have hbq : Below w4.heap.size w4 (wr.drewN nq) := by (repeat (first | exact hb | exact Below.refl _ _ | (with_reducible refine Below.drew ?_) | (with_reducible refine Below.drewN ?_ _) | (with_reducible refine Below.alloc ?_ ?_ _) | (with_reducible refine Below.setCell ?_ ?_ _) | (show _ ≤ _; focus (first | omega | (simp; done) | (simp; omega)))))
              generalize wr.drewN nq = wq at hbq ⊢
              clear hb c1 c4 de
              go_wp2_with fail
              go_roundw
              case rel => exact ⟨k + 1, by omega, by go_num, by rw [HS.out], hbq⟩
              case measure => simp [intOf]; omega
          | false =>
            have HS := Lib.hid (show sameTo L O (k + 1) = false by rw [hS, hsm]; rfl)
            clear hS hsm
            go_wp2_with fail
            go_quiet (fail)
            have hbq : Below w4.heap.size w4 (wr.drewN nq) := by (repeat (first | exact hb | exact Below.refl _ _ | (with_reducible refine Below.drew ?_) | (with_reducible refine Below.drewN ?_ _) | (with_reducible refine Below.alloc ?_ ?_ _) | (with_reducible refine Below.setCell ?_ ?_ _) | (show _ ≤ _; focus (first | omega | (simp; done) | (simp; omega)))))
            generalize wr.drewN nq = wq at hbq ⊢
            clear hb c1 c4
            go_wp2_with fail
            go_roundw
            case rel => exact ⟨k + 1, by omega, by go_num, by rw [HS.out], hbq⟩
            case measure => simp [intOf]; omega
        · have hlf : ¬ ((k : Int) < (L.length : Int)) := by omega
          have kr := k4.trans (hb.mono hs4)
          have hz := HZ.out
          rw [show L.length = k by omega] at hz
          generalize sameTo L O k = sb at *
          clear hb
          cases sb with
          | true =>
            have hz2 : (sv == 0) = true := by cases hx : (sv == 0) with | true => rfl | false => rw [hx] at hz; cases hz
            go_wp2_with fail
            refine (c_alive _).mono ?_
            rintro e w7 ⟨rfl, hb7⟩
            go_wp2_with fail
            go_ret
            exact ⟨rfl, kr.trans (hb7.mono kr.size)⟩
          | false =>
            have hz2 : (sv == 0) = false := by cases hx : (sv == 0) with | false => rfl | true => rw [hx] at hz; cases hz
            go_wp2_with fail
            refine (c_alive _).mono ?_
            rintro e w7 ⟨rfl, hb7⟩
            go_wp2_with fail
            go_ret
            exact ⟨rfl, kr.trans (hb7.mono kr.size)⟩
    | false =>
      have HV := Lib.hid (spreadV_no hok)
      rw [HV.out]
      clear hok
      go_wp2_with fail
      refine (c_alive _).mono ?_
      rintro e w6 ⟨rfl, hb6⟩
      go_wp2_with fail
      go_ret
      exact ⟨rfl, k3.trans (hb6.mono hs3)⟩
  · go_enter Try.func7, Try.ntmps7
    go_wp2_with fail
    go_ret
    exact ⟨rfl, Below.refl _ _⟩

end Go.Proofs.Ytgcoemfnjdbhaaa


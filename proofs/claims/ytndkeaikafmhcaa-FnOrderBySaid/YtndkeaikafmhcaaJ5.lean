/- walks of the laws of chapter 4, second part: FnOrderBy, FnChangesOf (over the program's contracts) -/
import Derived.Test.YtndkeaikafmhcaaJ4
import Derived.Test.YtndkeaikafmhcaaS3
namespace Go.Proofs.Ytndkeaikafmhcaa
set_option linter.unusedVariables false
open Go.RowKit
attribute [local go_sem ↓] Go.wp_at_zero Go.wp_at_succ

theorem ends_first {L : List (Int × Int)} (h : cOk L = true) : ends L (orderR L 0) = leaves L := by
  obtain ⟨T, hT, -⟩ := lastLeave_nat h
  have e : orderR L 0 = orderTo L 0 T := by rw [orderR_yes (by simp [byOk, h]), hT]; rfl
  rw [e, ends_yes (orderTo_ok h 0 hT), leaves_yes h]
  unfold endsL leavesTo
  refine List.map_congr_left fun k hk => ?_
  rw [orderTo_len]
  exact fcfs_ends h hT (List.mem_range.1 hk)
theorem orderR_at {L : List (Int × Int)} {r : Int} (h : byOk L r = true) {T : Nat} (hT : lastLeave L = T) : orderR L r = orderTo L r T := by rw [orderR_yes h, hT]; rfl

set_option maxRecDepth 4000 in
set_option maxHeartbeats 8000000 in
theorem w_FnOrderBy (A : Option Addr) (n c : Nat) (w : World) (h : Bs w w.heap.size A n) (hc : n ≤ c) :
    Calls Try.prog 5 #[.slice A n c] w fun e w' => e = .returned (.bool true) ∧ Below w.heap.size w w' := by
  by_cases hn : n ≤ 1048576
  · go_enter Try.func5, Try.ntmps5
    go_wp2_with fail
    refine (c_DrawOrderBy A n c _ h hn hc).mono ?_
    rintro e w1 ⟨L, v, t, rfl, hv, hl, -, ht, hb1⟩
    obtain ⟨D, d, rfl, hd1, hd2, hD⟩ := hv.form
    have hs1 := hb1.size
    clear hv h
    go_wp2_with fail
    refine (c_iOrderBy L D d t _ hD (by omega) (by omega)).mono ?_
    rintro e w2 ⟨v2, rfl, o2, hb2⟩
    have k2 := hb1.trans (hb2.mono hs1)
    have hs2 := k2.size
    have hD2 := (hD.below hb2).more hb2.size
    have hRl := orderR_len L t
    obtain ⟨G, g, rfl, -, -, hG⟩ := o2.form
    clear hb1 hb2 hD o2
    go_wp2_with fail
    refine (c_sOrderBy L D d t _ hD2 (by omega)).mono ?_
    rintro e w3 ⟨v3, rfl, o3, hb3⟩
    have k3 := k2.trans (hb3.mono hs2)
    have hs3 := k3.size
    have hD3 := (hD2.below hb3).more hb3.size
    have hG3 := (hG.below hb3).more hb3.size
    obtain ⟨G3, g3, rfl, -, -, hI3⟩ := o3.form
    clear k2 hb3 hD2 hG o3
    go_wp2_with fail
    refine (c_sameInts (orderR L t) G G3 _ _ g g3 _ hG3 hI3 (by omega)).mono ?_
    rintro e w4 ⟨rfl, hb4⟩
    have k4 := k3.trans (hb4.mono hs3)
    have hs4 := k4.size
    have hD4 := (hD3.below hb4).more hb4.size
    have hG4 := (hG3.below hb4).more hb4.size
    clear k3 hb4 hD3 hG3 hI3
    by_cases h0 : (orderR L t).length = 0
    · have h0b : (((orderR L t).length : Int) == 0) = true := beq_iff_eq.2 (by omega)
      clear h0
      go_wp2_with fail
      refine (c_alive _).mono ?_
      rintro e w6 ⟨rfl, hb6⟩
      go_wp2_with fail
      go_ret
      exact ⟨rfl, k4.trans (hb6.mono hs4)⟩
    · have hp : byOk L t = true := by
        cases hx : byOk L t with
        | true => rfl
        | false => rw [orderR_no hx] at h0; exact absurd rfl h0
      obtain ⟨hok, -⟩ : cOk L = true ∧ decide (0 ≤ t ∧ t ≤ 3) = true := by simpa [byOk] using hp
      obtain ⟨T, hT, hT2⟩ := lastLeave_nat hok
      have eR := orderR_at hp hT
      have hp0 : byOk L 0 = true := by simp [byOk, hok]
      have e0 := orderR_at hp0 hT
      have HE := Lib.hid (ends_first hok)
      have HZ := Lib.hid (fun k (hk : k < T) => show (0 ≤ Z (orderTo L t T) k ↔ wk L k ≠ 0) ∧ (0 ≤ Z (orderTo L 0 T) k ↔ wk L k ≠ 0) from ⟨by rw [orderTo_Z hk]; exact ordW_work hok t k, by rw [orderTo_Z hk]; exact ordW_work hok 0 k⟩)
      have hRT : (orderR L t).length = T := by rw [eR, orderTo_len]
      have hFT : (orderR L 0).length = T := by rw [e0, orderTo_len]
      have KF := Lib.hid (fun W hW => c_iOrderBy L D d 0 W hW (by omega) (by omega))
      have hlen := cOk_len hok
      rw [eR] at hG4
      rw [hRT] at h0 ⊢
      have h0b : ((T : Int) == 0) = false := beq_eq_false_iff_ne.2 (by omega)
      have HG4 : Is w4 w4.heap.size G (orderTo L t T) := hG4
      clear hp hp0 hok eR hRT hG4 hRl hT ht
      have hLV : (leaves L).length ≤ 1000 := by unfold leaves; split <;> simp [leavesTo]; omega
      go_wp2_with fail
      refine (KF.out _ hD4).mono ?_
      rintro e w5 ⟨v5, rfl, o5, hb5⟩
      have k5 := k4.trans (hb5.mono hs4)
      have hs5 := k5.size
      have hD5 := (hD4.below hb5).more hb5.size
      have hG5 := (HG4.below hb5).more hb5.size
      obtain ⟨F, f5, rfl, -, -, hF5⟩ := o5.form
      rw [hFT]
      have hTT : ((T : Int) != (T : Int)) = false := by simp
      rw [e0] at hF5
      have hF5' : Is w5 w5.heap.size F (orderTo L 0 T) := hF5
      clear k4 hb5 hD4 HG4 o5 KF hF5
      go_wp2_with fail
      go_loopw [7] (fun i wr => ∃ k : Nat, k ≤ T ∧ i = .int .i64 k ∧ Below w5.heap.size w5 wr) (fun i _ => T - (intOf i).toNat)
      case atStart => exact ⟨0, by omega, rfl, Below.refl _ _⟩
      case round =>
        obtain ⟨k, hk, rfl, hb⟩ := hrel
        have hsz := hb.size
        by_cases hlt : k < T
        · obtain ⟨gb, go, rfl, hgb, hgc⟩ := hG5 (by rw [orderTo_len]; omega)
          obtain ⟨fb, fo, rfl, hfb, hfc⟩ := hF5' (by rw [orderTo_len]; omega)
          have c1 := (hb.cell (p := ⟨gb, go + k, none⟩) hgb).trans (hgc k (by rw [orderTo_len]; exact hlt))
          have c2 := (hb.cell (p := ⟨fb, fo + k, none⟩) hfb).trans (hfc k (by rw [orderTo_len]; exact hlt))
          have p1 : (0 : Int) ≤ (k : Int) := by omega
          have p2 : (k : Int) < (T : Int) := by omega
          obtain ⟨z1, z2⟩ := HZ.out k hlt
          clear hgc hfc
          generalize Z (orderTo L t T) k = zr at *
          generalize Z (orderTo L 0 T) k = zf at *
          by_cases ha : wk L k ≠ 0
          · have d1 : decide (0 ≤ zr) = true := decide_eq_true (z1.2 ha)
            have d2 : decide (0 ≤ zf) = true := decide_eq_true (z2.2 ha)
            clear z1 z2 ha
            go_wp2_with fail
            go_quiet (fail)
            clear d1 d2
            have hbq : Below w5.heap.size w5 (wr.drewN nq) := by (repeat (first | exact hb | exact Below.refl _ _ | (with_reducible refine Below.drew ?_) | (with_reducible refine Below.drewN ?_ _) | (with_reducible refine Below.alloc ?_ ?_ _) | (with_reducible refine Below.setCell ?_ ?_ _) | (show _ ≤ _; focus (first | omega | (simp; done) | (simp; omega)))))
            generalize wr.drewN nq = wq at hbq ⊢
            clear hb c1 c2
            go_wp2_with fail
            go_roundw
            case rel => exact ⟨k + 1, by omega, by go_num, hbq⟩
            case measure => simp [intOf]; omega
          · have d1 : decide (0 ≤ zr) = false := decide_eq_false (fun h => ha (z1.1 h))
            have d2 : decide (0 ≤ zf) = false := decide_eq_false (fun h => ha (z2.1 h))
            clear z1 z2 ha
            go_wp2_with fail
            go_quiet (fail)
            clear d1 d2
            have hbq : Below w5.heap.size w5 (wr.drewN nq) := by (repeat (first | exact hb | exact Below.refl _ _ | (with_reducible refine Below.drew ?_) | (with_reducible refine Below.drewN ?_ _) | (with_reducible refine Below.alloc ?_ ?_ _) | (with_reducible refine Below.setCell ?_ ?_ _) | (show _ ≤ _; focus (first | omega | (simp; done) | (simp; omega)))))
            generalize wr.drewN nq = wq at hbq ⊢
            clear hb c1 c2
            go_wp2_with fail
            go_roundw
            case rel => exact ⟨k + 1, by omega, by go_num, hbq⟩
            case measure => simp [intOf]; omega
        · have hlf : ¬ ((k : Int) < (T : Int)) := by omega
          have kr := k5.trans (hb.mono hs5)
          have hDr := (hD5.below hb).more hsz
          have hFr := (hF5'.below hb).more hsz
          have KE := c_iEndsOf L (orderTo L 0 T) D F d f5 wr hDr hFr (by omega) (by rw [orderTo_len]; omega)
          rw [← e0, HE.out, e0, orderTo_len] at KE
          clear hb hFr hG5 hF5'
          go_wp2_with fail
          refine KE.mono ?_
          rintro e w6 ⟨v6, rfl, o6, hb6⟩
          have k6 := kr.trans (hb6.mono kr.size)
          have hs6 := k6.size
          have hD6 := (hDr.below hb6).more hb6.size
          obtain ⟨E6, e6, rfl, -, -, hI6⟩ := o6.form
          clear hb6 hDr kr o6
          go_wp2_with fail
          refine (c_iLeavesOf L D d _ hD6 (by omega)).mono ?_
          rintro e w7 ⟨v7, rfl, o7, hb7⟩
          have k7 := k6.trans (hb7.mono hs6)
          have hs7 := k7.size
          have hI7 := (hI6.below hb7).more hb7.size
          obtain ⟨E7, e7, rfl, -, -, hJ7⟩ := o7.form
          clear hb7 hD6 k6 o7 hI6
          go_wp2_with fail
          refine (c_sameInts (leaves L) E6 E7 _ _ e6 e7 _ hI7 hJ7 (by omega)).mono ?_
          rintro e w8 ⟨rfl, hb8⟩
          have k8 := k7.trans (hb8.mono hs7)
          go_wp2_with fail
          refine (c_alive _).mono ?_
          rintro e w9 ⟨rfl, hb9⟩
          go_wp2_with fail
          go_ret
          exact ⟨rfl, k8.trans (hb9.mono k8.size)⟩
  · go_enter Try.func5, Try.ntmps5
    go_wp2_with fail
    go_ret
    exact ⟨rfl, Below.refl _ _⟩

theorem changes_first {L : List (Int × Int)} (h : cOk L = true) : changesV L (orderR L 0) = 0 := by
  obtain ⟨T, hT, -⟩ := lastLeave_nat h
  rw [orderR_at (by simp [byOk, h]) hT]
  exact changes_0 h hT
theorem changes_most {L : List (Int × Int)} (h : cOk L = true) {r : Int} (hr : r = 1 ∨ r = 2) : changesV L (orderR L r) ≤ max ((L.length : Int) - 1) 0 := by
  obtain ⟨T, hT, -⟩ := lastLeave_nat h
  rw [orderR_at (by simp [byOk, h]; omega) hT]
  exact changes_le h hr hT

set_option maxRecDepth 4000 in
set_option maxHeartbeats 8000000 in
theorem w_FnChangesOf (A : Option Addr) (n c : Nat) (w : World) (h : Bs w w.heap.size A n) (hc : n ≤ c) :
    Calls Try.prog 7 #[.slice A n c] w fun e w' => e = .returned (.bool true) ∧ Below w.heap.size w w' := by
  by_cases hn : n ≤ 1048576
  · go_enter Try.func7, Try.ntmps7
    go_wp2_with fail
    refine (c_DrawChangesOf A n c _ h hn hc).mono ?_
    rintro e w1 ⟨L, v, O, B, d, rfl, hv, hl, -, hO, ho, hd, hb1⟩
    obtain ⟨D, dd, rfl, hd1, hd2, hD⟩ := hv.form
    have hs1 := hb1.size
    clear hv h
    go_wp2_with fail
    refine (c_iChangesOf L O D B dd d _ hD hO (by omega) (by omega)).mono ?_
    rintro e w2 ⟨rfl, hb2⟩
    have k2 := hb1.trans (hb2.mono hs1)
    have hs2 := k2.size
    have hD2 := (hD.below hb2).more hb2.size
    have hO2 := (hO.below hb2).more hb2.size
    clear hb1 hb2 hD hO
    go_wp2_with fail
    refine (c_sChangesOf L O D B dd d _ hD2 hO2 (by omega) (by omega)).mono ?_
    rintro e w3 ⟨rfl, hb3⟩
    have k3 := k2.trans (hb3.mono hs2)
    have hs3 := k3.size
    have hD3 := (hD2.below hb3).more hb3.size
    have hne : (changesV L O != changesV L O) = false := by simp
    clear k2 hb3 hD2 hO2
    go_wp2_with fail
    refine (c_sCustomersOk L D dd _ hD3 (by omega)).mono ?_
    rintro e w4 ⟨rfl, hb4⟩
    have k4 := k3.trans (hb4.mono hs3)
    have hs4 := k4.size
    have hD4 := (hD3.below hb4).more hb4.size
    clear k3 hb4 hD3 hne
    cases hok : cOk L with
    | true =>
      have H0 := Lib.hid (changes_first hok)
      have H1 := Lib.hid (changes_most hok (r := 1) (.inl rfl))
      have H2 := Lib.hid (changes_most hok (r := 2) (.inr rfl))
      have HL := Lib.hid (fun r => orderR_len L r)
      have KO := Lib.hid (fun r W hW => c_iOrderBy L D dd r W hW (by omega) (by omega))
      have KC := Lib.hid (fun r E e W hW hE => c_iChangesOf L (orderR L r) D E dd e W hW hE (by omega) (by have := HL.out r; omega))
      have hb := Lib.hid (fun r => show -1 ≤ changesV L (orderR L r) ∧ changesV L (orderR L r) ≤ 200 by
        unfold changesV; split
        · have := chTo_nn (orderR L r) (endsL L (orderR L r) L.length) (orderR L r).length
          have := HL.out r; omega
        · omega)
      clear hok
      by_cases hL0 : L.length = 0
      · have hLm : (L.length : Int) - 1 < 0 := by omega
        have HL0 := Lib.hid hL0
        clear hL0
        go_wp2_with fail
        refine (KO.out 0 _ hD4).mono ?_
        rintro e w5 ⟨v5, rfl, o5, hb5⟩
        have k5 := k4.trans (hb5.mono hs4)
        have hs5 := k5.size
        have hD5 := (hD4.below hb5).more hb5.size
        obtain ⟨E5, e5, rfl, -, -, hI5⟩ := o5.form
        clear k4 hb5 hD4 o5
        go_wp2_with fail
        refine (KC.out 0 E5 e5 _ hD5 hI5).mono ?_
        rintro e w6 ⟨rfl, hb6⟩
        rw [H0.out]
        have k6 := k5.trans (hb6.mono hs5)
        have hs6 := k6.size
        have hD6 := (hD5.below hb6).more hb6.size
        clear k5 hb6 hD5 hI5
        go_wp2_with fail
        refine (KO.out 1 _ hD6).mono ?_
        rintro e w7 ⟨v7, rfl, o7, hb7⟩
        have k7 := k6.trans (hb7.mono hs6)
        have hs7 := k7.size
        have hD7 := (hD6.below hb7).more hb7.size
        obtain ⟨E7, e7, rfl, -, -, hI7⟩ := o7.form
        clear k6 hb7 hD6 o7
        go_wp2_with fail
        refine (KC.out 1 E7 e7 _ hD7 hI7).mono ?_
        rintro e w8 ⟨rfl, hb8⟩
        have k8 := k7.trans (hb8.mono hs7)
        have hs8 := k8.size
        have hD8 := (hD7.below hb8).more hb8.size
        have b1 := H1.out
        have b2 := H2.out
        clear k7 hb8 hD7 hI7
        have dd1 : decide (changesV L (orderR L 1) ≤ 0) = true := decide_eq_true (by omega)
        have dd2 : decide (changesV L (orderR L 2) ≤ 0) = true := decide_eq_true (by omega)
        clear b1 b2
        go_wp2_with fail
        refine (KO.out 2 _ hD8).mono ?_
        rintro e w9 ⟨v9, rfl, o9, hb9⟩
        have k9 := k8.trans (hb9.mono hs8)
        have hs9 := k9.size
        have hD9 := (hD8.below hb9).more hb9.size
        obtain ⟨E9, e9, rfl, -, -, hI9⟩ := o9.form
        clear k8 hb9 hD8 o9
        go_wp2_with fail
        refine (KC.out 2 E9 e9 _ hD9 hI9).mono ?_
        rintro e wa ⟨rfl, hba⟩
        have ka := k9.trans (hba.mono hs9)
        clear k9 hba hD9 hI9
        go_wp2_with fail
        refine (c_alive _).mono ?_
        rintro e wb ⟨rfl, hbb⟩
        go_wp2_with fail
        go_ret
        exact ⟨rfl, ka.trans (hbb.mono ka.size)⟩
      · have hLm : (0 : Int) ≤ (L.length : Int) - 1 := by omega
        go_wp2_with fail
        refine (KO.out 0 _ hD4).mono ?_
        rintro e w5 ⟨v5, rfl, o5, hb5⟩
        have k5 := k4.trans (hb5.mono hs4)
        have hs5 := k5.size
        have hD5 := (hD4.below hb5).more hb5.size
        obtain ⟨E5, e5, rfl, -, -, hI5⟩ := o5.form
        clear k4 hb5 hD4 o5
        go_wp2_with fail
        refine (KC.out 0 E5 e5 _ hD5 hI5).mono ?_
        rintro e w6 ⟨rfl, hb6⟩
        rw [H0.out]
        have k6 := k5.trans (hb6.mono hs5)
        have hs6 := k6.size
        have hD6 := (hD5.below hb6).more hb6.size
        clear k5 hb6 hD5 hI5
        go_wp2_with fail
        refine (KO.out 1 _ hD6).mono ?_
        rintro e w7 ⟨v7, rfl, o7, hb7⟩
        have k7 := k6.trans (hb7.mono hs6)
        have hs7 := k7.size
        have hD7 := (hD6.below hb7).more hb7.size
        obtain ⟨E7, e7, rfl, -, -, hI7⟩ := o7.form
        clear k6 hb7 hD6 o7
        go_wp2_with fail
        refine (KC.out 1 E7 e7 _ hD7 hI7).mono ?_
        rintro e w8 ⟨rfl, hb8⟩
        have k8 := k7.trans (hb8.mono hs7)
        have hs8 := k8.size
        have hD8 := (hD7.below hb8).more hb8.size
        have b1 := H1.out
        have b2 := H2.out
        clear k7 hb8 hD7 hI7
        have dd1 : decide (changesV L (orderR L 1) ≤ (L.length : Int) - 1) = true := decide_eq_true (by omega)
        have dd2 : decide (changesV L (orderR L 2) ≤ (L.length : Int) - 1) = true := decide_eq_true (by omega)
        clear b1 b2
        go_wp2_with fail
        refine (KO.out 2 _ hD8).mono ?_
        rintro e w9 ⟨v9, rfl, o9, hb9⟩
        have k9 := k8.trans (hb9.mono hs8)
        have hs9 := k9.size
        have hD9 := (hD8.below hb9).more hb9.size
        obtain ⟨E9, e9, rfl, -, -, hI9⟩ := o9.form
        clear k8 hb9 hD8 o9
        go_wp2_with fail
        refine (KC.out 2 E9 e9 _ hD9 hI9).mono ?_
        rintro e wa ⟨rfl, hba⟩
        have ka := k9.trans (hba.mono hs9)
        clear k9 hba hD9 hI9
        go_wp2_with fail
        refine (c_alive _).mono ?_
        rintro e wb ⟨rfl, hbb⟩
        go_wp2_with fail
        go_ret
        exact ⟨rfl, ka.trans (hbb.mono ka.size)⟩
    | false =>
      have HV := Lib.hid (show changesV L O = -1 from changesV_no (by simp [ordOk, hok]))
      rw [HV.out]
      clear hok
      go_wp2_with fail
      refine (c_alive _).mono ?_
      rintro e w6 ⟨rfl, hb6⟩
      go_wp2_with fail
      go_ret
      exact ⟨rfl, k4.trans (hb6.mono hs4)⟩
  · go_enter Try.func7, Try.ntmps7
    go_wp2_with fail
    go_ret
    exact ⟨rfl, Below.refl _ _⟩

end Go.Proofs.Ytndkeaikafmhcaa


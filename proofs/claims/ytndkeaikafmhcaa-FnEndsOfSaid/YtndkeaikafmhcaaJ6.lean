/- walks of the laws of chapter 4, third part: FnEndsOf (over the program's contracts) -/
import Derived.Test.YtndkeaikafmhcaaJ4
namespace Go.Proofs.Ytndkeaikafmhcaa
set_option linter.unusedVariables false
open Go.RowKit
attribute [local go_sem ↓] Go.wp_at_zero Go.wp_at_succ

theorem ends_len_le (L : List (Int × Int)) (O : List Int) : (ends L O).length ≤ L.length := by
  unfold ends; split
  · rw [endsL_len]; omega
  · simp

set_option maxRecDepth 4000 in
set_option maxHeartbeats 8000000 in
theorem w_FnEndsOf (A : Option Addr) (n c : Nat) (w : World) (h : Bs w w.heap.size A n) (hc : n ≤ c) :
    Calls Try.prog 6 #[.slice A n c] w fun e w' => e = .returned (.bool true) ∧ Below w.heap.size w w' := by
  by_cases hn : n ≤ 1048576
  · go_enter Try.func6, Try.ntmps6
    go_wp2_with fail
    refine (c_DrawEndsOf A n c _ h hn hc).mono ?_
    rintro e w1 ⟨L, v, O, B, d, rfl, hv, hl, -, hO, ho, hd, hb1⟩
    obtain ⟨D, dd, rfl, hd1, hd2, hD⟩ := hv.form
    have hs1 := hb1.size
    clear hv h
    go_wp2_with fail
    refine (c_iEndsOf L O D B dd d _ hD hO (by omega) (by omega)).mono ?_
    rintro e w2 ⟨v2, rfl, o2, hb2⟩
    have k2 := hb1.trans (hb2.mono hs1)
    have hs2 := k2.size
    have hD2 := (hD.below hb2).more hb2.size
    have hO2 := (hO.below hb2).more hb2.size
    have hEl := ends_len_le L O
    obtain ⟨G, g, rfl, -, -, hG⟩ := o2.form
    clear hb1 hb2 hD hO o2
    go_wp2_with fail
    refine (c_sEndsOf L O D B dd d _ hD2 hO2 (by omega) (by omega)).mono ?_
    rintro e w3 ⟨v3, rfl, o3, hb3⟩
    have k3 := k2.trans (hb3.mono hs2)
    have hs3 := k3.size
    have hD3 := (hD2.below hb3).more hb3.size
    have hG3 := (hG.below hb3).more hb3.size
    obtain ⟨G3, g3, rfl, -, -, hI3⟩ := o3.form
    clear k2 hb3 hD2 hG o3 hO2
    go_wp2_with fail
    refine (c_sameInts (ends L O) G G3 _ _ g g3 _ hG3 hI3 (by omega)).mono ?_
    rintro e w4 ⟨rfl, hb4⟩
    have k4 := k3.trans (hb4.mono hs3)
    have hs4 := k4.size
    have hD4 := (hD3.below hb4).more hb4.size
    have hG4 := (hG3.below hb4).more hb4.size
    clear k3 hb4 hD3 hG3 hI3
    by_cases h0 : (ends L O).length = 0
    · have h0b : (((ends L O).length : Int) == 0) = true := beq_iff_eq.2 (by omega)
      clear h0
      go_wp2_with fail
      refine (c_alive _).mono ?_
      rintro e w6 ⟨rfl, hb6⟩
      go_wp2_with fail
      go_ret
      exact ⟨rfl, k4.trans (hb6.mono hs4)⟩
    · have hok : ordOk L O = true := by
        cases hx : ordOk L O with
        | true => rfl
        | false => rw [ends_no hx] at h0; exact absurd rfl h0
      have hcok := (ordOk_parts hok).1
      rw [ends_yes hok] at h0 hG4 ⊢
      rw [endsL_len] at h0 ⊢
      have HG4 : Is w4 w4.heap.size G (endsL L O L.length) := hG4
      have h0b : ((L.length : Int) == 0) = false := beq_eq_false_iff_ne.2 (by omega)
      have hLb : ((L.length : Int) == (L.length : Int)) = true := by simp
      have Hd := Lib.hid (fun j k (hj : j < k) (hk : k < L.length) => ends_diff hok hj hk)
      have Hn := Lib.hid (fun k (hk : k < L.length) => ends_need hok hk)
      have Hb := Lib.hid (fun k (hk : k < L.length) => cOk_bd hcok hk)
      have He := Lib.hid (fun k => endTo_le O k O.length)
      have Ht := Lib.hid (fun k => bestTo_bd O k)
      have HLL := Lib.hid (show decide (lastLeave L ≤ bestTo O L.length) = true from decide_eq_true (bestTo_last hok))
      clear hG4 hok hcok hEl
      go_wp2_with fail
      go_loopw [6, 7] (fun s i wr => ∃ k : Nat, k ≤ L.length ∧ i = .int .i64 k ∧ s = .int .i64 (bestTo O k) ∧ Below w4.heap.size w4 wr) (fun _ i _ => L.length - (intOf i).toNat)
      case atStart => exact ⟨0, by omega, rfl, rfl, Below.refl _ _⟩
      case round =>
        obtain ⟨k, hk, rfl, rfl, hb⟩ := hrel
        have hsz := hb.size
        by_cases hlt : k < L.length
        · obtain ⟨gb, go, rfl, hgb, hgc⟩ := HG4 (by rw [endsL_len]; omega)
          obtain ⟨lb, lo, rfl, hlb, hlc⟩ := hD4 (by omega)
          have HGC := Lib.hid (fun j (hj : j < L.length) => by have := hgc j (by rw [endsL_len]; exact hj); rw [endsL_Z hj] at this; exact this)
          have l1 := (hlc k hlt).1
          have l2 := (hlc k hlt).2
          have p1 : (0 : Int) ≤ (k : Int) := by omega
          have p2 : (k : Int) < (L.length : Int) := by omega
          clear hgc hlc
          go_wp2_with fail
          obtain ⟨w5, hw5⟩ : ∃ x, x = wr := ⟨_, rfl⟩
          rw [← hw5] at hb hsz ⊢
          clear hw5
          go_loopw [8] (fun i wr => ∃ j : Nat, j ≤ k ∧ i = .int .i64 j ∧ Below w4.heap.size w4 wr) (fun i _ => k - (intOf i).toNat)
          case atStart => exact ⟨0, by omega, rfl, hb⟩
          case round =>
            clear hb hsz
            obtain ⟨j, hj, rfl, hb⟩ := hrel
            have hsz := hb.size
            by_cases hjk : j < k
            · have c1 := (hb.cell (p := ⟨gb, go + j, none⟩) hgb).trans (HGC.out j (by omega))
              have c2 := (hb.cell (p := ⟨gb, go + k, none⟩) hgb).trans (HGC.out k hlt)
              have q1 : (0 : Int) ≤ (j : Int) := by omega
              have q2 : (j : Int) < (L.length : Int) := by omega
              have q3 : (j : Int) < (k : Int) := by omega
              have dd0 : (endTo O j O.length == endTo O k O.length) = false := beq_eq_false_iff_ne.2 (Hd.out j k hjk hlt)
              go_wp2_with fail
              go_quiet (fail)
              have hbq : Below w4.heap.size w4 (wr.drewN nq) := by (repeat (first | exact hb | exact Below.refl _ _ | (with_reducible refine Below.drew ?_) | (with_reducible refine Below.drewN ?_ _) | (with_reducible refine Below.alloc ?_ ?_ _) | (with_reducible refine Below.setCell ?_ ?_ _) | (show _ ≤ _; focus (first | omega | (simp; done) | (simp; omega)))))
              generalize wr.drewN nq = wq at hbq ⊢
              clear hb c1 c2 dd0
              go_wp2_with fail
              go_roundw
              case rel => exact ⟨j + 1, by omega, by go_num, hbq⟩
              case measure => simp [intOf]; omega
            · have hjf : ¬ ((j : Int) < (k : Int)) := by omega
              have c2 := (hb.cell (p := ⟨gb, go + k, none⟩) hgb).trans (HGC.out k hlt)
              have c3 := (hb.cell (p := ⟨lb, lo + k * 2, none⟩) hlb).trans l1
              have c4 := (hb.cell (p := ⟨lb, lo + k * 2 + 1, none⟩) hlb).trans l2
              have bd := Hb.out k hlt
              have bn := Hn.out k hlt
              have be := He.out k
              have bt := Ht.out k
              have hE1 : bestTo O (k + 1) = max (bestTo O k) (endTo O k O.length) := rfl
              have HE1 := Lib.hid hE1
              have dn : decide (endTo O k O.length < X L k + Y L k) = false := decide_eq_false (by omega)
              have q7 : IntKind.i64.wrap (X L k + Y L k) = X L k + Y L k := IntWalk.i64_in _ (by omega)
              clear bn hE1
              generalize endTo O k O.length = ek at *
              go_wp2_with fail
              go_quiet (fail)
              have hbq : Below w4.heap.size w4 (wr.drewN nq) := by (repeat (first | exact hb | exact Below.refl _ _ | (with_reducible refine Below.drew ?_) | (with_reducible refine Below.drewN ?_ _) | (with_reducible refine Below.alloc ?_ ?_ _) | (with_reducible refine Below.setCell ?_ ?_ _) | (show _ ≤ _; focus (first | omega | (simp; done) | (simp; omega)))))
              have c5 : (wr.drewN nq).cell? ⟨gb, go + k, none⟩ = some (.int .i64 ek) := c2
              generalize wr.drewN nq = wq at hbq c5 ⊢
              clear hb c2 c3 c4 dn q7
              by_cases hm : bestTo O k < ek
              · go_wp2_with fail
                go_roundw
                case rel => exact ⟨k + 1, by omega, by go_num, by rw [HE1.out]; congr 1; omega, hbq⟩
                case measure => simp [intOf]; omega
              · go_wp2_with fail
                go_roundw
                case rel => exact ⟨k + 1, by omega, by go_num, by rw [HE1.out]; congr 1; omega, hbq⟩
                case measure => simp [intOf]; omega
        · have hlf : ¬ ((k : Int) < (L.length : Int)) := by omega
          have HK := Lib.hid (show k = L.length by omega)
          have kr := k4.trans (hb.mono hs4)
          have hDr := (hD4.below hb).more hsz
          rw [HK.out]
          clear hb hk hlt hlf HK
          go_wp2_with fail
          refine (c_iLastLeave L D dd _ hDr (by omega)).mono ?_
          rintro e w6 ⟨rfl, hb6⟩
          have dll := HLL.out
          go_wp2_with fail
          go_ret
          exact ⟨rfl, kr.trans (hb6.mono kr.size)⟩
  · go_enter Try.func6, Try.ntmps6
    go_wp2_with fail
    go_ret
    exact ⟨rfl, Below.refl _ _⟩

end Go.Proofs.Ytndkeaikafmhcaa


/- walks of the laws of chapter 10, second part: FnLeavesBeside -/
import Derived.Test.YthoendonhkffkaaKS
import Derived.Test.YthoendonhkffkaaI9
import Derived.Test.YthoendonhkffkaaH
import Derived.Test.YthoendonhkffkaaS7
import Derived.Test.YthoendonhkffkaaR2
import Derived.Test.YthoendonhkffkaaV13
namespace Go.Proofs.Ythoendonhkffkaa
set_option linter.unusedVariables false
open Go.RowKit
attribute [local go_sem ↓] Go.wp_at_zero Go.wp_at_succ

set_option maxRecDepth 8000 in
set_option maxHeartbeats 8000000 in
theorem w_FnLeavesBeside (A : Option Addr) (n c : Nat) (w : World) (h : Bs w w.heap.size A n) (hc : n ≤ c) :
    Calls Try.prog 4 #[.slice A n c] w fun e w' => e = .returned (.bool true) ∧ Below w.heap.size w w' := by
  by_cases hn : n ≤ 1048576
  · go_enter Try.func4, Try.ntmps4
    have k0 := Below.refl w.heap.size w
    have hs0 := k0.size
    go_wp2_with fail
    refine (c_DrawLeavesBeside A n c _ h hn hc).mono ?_
    rintro e w1 ⟨L, v, t, rfl, hv, hl, ht, hb1⟩
    obtain ⟨D, d, rfl, hd1, hd2, hD1⟩ := hv.form
    clear hv h
    have k1 := k0.trans (hb1.mono hs0)
    have hs1 := k1.size
    clear k0 hb1
    have hbl := leaveBeV_len L t
    go_wp2_with fail
    refine (c_iLeavesBeside L D d t _ hD1 hd1 (by omega)).mono ?_
    rintro e w2 ⟨v2, rfl, o2, hb2⟩
    obtain ⟨G, g, rfl, hg1, hg2, hG2⟩ := o2.form
    clear o2
    have k2 := k1.trans (hb2.mono hs1)
    have hs2 := k2.size
    have hD2 := (hD1.below hb2).more hb2.size
    clear k1 hb2 hD1
    go_wp2_with fail
    refine (c_sLeavesBeside L D d t _ hD2 (by omega)).mono ?_
    rintro e w3 ⟨v3, rfl, o3, hb3⟩
    obtain ⟨S, s, rfl, hg4, hg5, hS3⟩ := o3.form
    clear o3
    have k3 := k2.trans (hb3.mono hs2)
    have hs3 := k3.size
    have hD3 := (hD2.below hb3).more hb3.size
    have hG3 := (hG2.below hb3).more hb3.size
    clear k2 hb3 hD2 hG2
    go_wp2_with fail
    refine (c_sameInts (leaveBeV L t) G S _ _ g s _ hG3 hS3 (by omega)).mono ?_
    rintro e w4 ⟨rfl, hb4⟩
    have k4 := k3.trans (hb4.mono hs3)
    have hs4 := k4.size
    have hD4 := (hD3.below hb4).more hb4.size
    have hG4 := (hG3.below hb4).more hb4.size
    have hS4 := (hS3.below hb4).more hb4.size
    clear k3 hb4 hD3 hG3 hS3
    clear hS4
    by_cases h0 : (leaveBeV L t).length = 0
    · have hz : (((leaveBeV L t).length : Int) == 0) = true := beq_iff_eq.2 (by omega)
      have HH0 := Lib.hid h0
      clear h0
      go_wp2_with fail
      refine (c_alive _).mono ?_
      rintro e w5 ⟨rfl, hb5⟩
      go_wp2_with fail
      go_ret
      exact ⟨rfl, k4.trans (hb5.mono hs4)⟩
    · have hbes : besOk L t = true := by
        cases hx : besOk L t with
        | true => rfl
        | false => rw [leaveBeV_no hx] at h0; simp at h0
      obtain ⟨hok, hr⟩ := besOk_parts hbes
      obtain ⟨cn, rfl, h1, h4, hcn⟩ := counter_nat hr
      have hE : leaveBeV L (cn : Int) = leaveBeTo L cn L.length := by rw [leaveBeV_yes hbes, hcn]
      rw [hE, leaveBeTo_len] at h0
      have hl1 : 1 ≤ L.length := by omega
      have hlen := cOk_len hok
      have HLa := Lib.hid (fun k (hk : k < L.length) => bgn_last hok h1 hk)
      have HMo := Lib.hid (fun (k : Nat) => show (moreOk L (k : Int) = false ∧ moreR L (k : Int) = [] ∧ leaveBeV ([] : List (Int × Int)) (cn : Int) = []) ∨ (moreOk L (k : Int) = true ∧ moreR L (k : Int) = moreL L k ∧ leaveBeV (moreL L k) (cn : Int) = leaveBeTo (moreL L k) cn L.length ∧ ∀ j, j < L.length → bgn L cn j + Y L j ≤ bgn (moreL L k) cn j + Y (moreL L k) j) from by
        cases hm : moreOk L (k : Int) with
        | false => exact .inl ⟨rfl, moreR_no hm, by simp [leaveBeV, leaveBeTo]⟩
        | true =>
          have hp := hm
          simp only [moreOk, Bool.and_eq_true, Int.toNat_natCast] at hp
          have hb : besOk (moreL L k) (cn : Int) = true := by simp only [besOk, hp.2, Bool.true_and]; exact decide_eq_true hr
          refine .inr ⟨rfl, by rw [moreR_yes hm, Int.toNat_natCast], by rw [leaveBeV_yes hb, hcn, moreL_len], fun j hj => ?_⟩
          have hkl : k < L.length := by have := placeOk_parts hp.1; omega
          have hy : ∀ i, i < L.length → Y L i ≤ Y (moreL L k) i := fun i _ => by
            by_cases e : k = i
            · subst e; rw [moreL_Yat hkl]; omega
            · rw [moreL_Y e]; omega
          have := (free_dom (L := moreL L k) (M := L) (c := cn) (d := cn) (n := L.length) h1 (Nat.le_refl _) (fun i _ => (moreL_X L k i).symm) hy j (by omega)).2 hj
          have := hy j hj
          omega)
      rw [hE] at hG4 hg1
      rw [hE, leaveBeTo_len]
      rw [leaveBeTo_len] at hg1
      have hz : ((L.length : Int) == 0) = false := beq_eq_false_iff_ne.2 (by omega)
      have heq : ((L.length : Int) == (L.length : Int)) = true := by simp
      have hll := lastLeave_bd hok
      have HB := Lib.hid (fun k (hk : k < L.length) => bgn_bd hok h1 hk)
      clear h0 hbes hok hr hcn hE hbl hg4
      go_wp2_with fail
      go_loopw [6] (fun i wr => ∃ k : Nat, k ≤ L.length ∧ i = .int .i64 (k : Int) ∧ Below w4.heap.size w4 wr) (fun i _ => L.length - (intOf i).toNat)
      case atStart => exact ⟨0, by omega, rfl, Below.refl _ _⟩
      case round =>
        obtain ⟨k, hk, rfl, hb⟩ := hrel
        have hsz := hb.size
        have hDr : Cs wr wr.heap.size D L := (hD4.below hb).more hsz
        have hGr : Is wr wr.heap.size G (leaveBeTo L cn L.length) := (hG4.below hb).more hsz
        by_cases hlt : k < L.length
        · have p0 : (0 : Int) ≤ (k : Int) := by omega
          have p1 : (k : Int) < (L.length : Int) := by omega
          have HN := Lib.hid (c_sNeedingMore L D d (k : Int) wr hDr (by omega))
          have hla := HLa.out k hlt
          have dla : decide (lastLeave L < bgn L cn k + Y L k) = false := decide_eq_false (by omega)
          clear hla
          rcases HMo.out k with ⟨e1, e2, e3⟩ | ⟨e1, e2, e3, hj9⟩
          · rw [e1, e2] at HN
            have KLe := fun (E : Option Addr) (x : Nat) W hW => c_iLeavesBeside [] E x (cn : Int) W hW (Nat.zero_le _) (by simp)
            rw [e3] at KLe
            have HLe := Lib.hid KLe
            clear e1 e2 e3 KLe
            go_wp2_with fail
            refine HN.out.mono ?_
            rintro e w5 ⟨v5, rfl, o5, hb5⟩
            obtain ⟨E, e5, rfl, -, -, hE5⟩ := o5.form
            have hx5 := hb.trans (hb5.mono hsz)
            clear o5
            simp only [laterV]
            go_wp2_with fail
            refine (HLe.out _ _ _ hE5).mono ?_
            rintro e w6 ⟨v6, rfl, o6, hb6⟩
            obtain ⟨Q, q6, rfl, -, -, -⟩ := o6.form
            have hx6 := hx5.trans (hb6.mono hx5.size)
            have hs6 := hx6.size
            have hD6 : Cs w6 w6.heap.size D L := (hD4.below hx6).more hs6
            have hG6 : Is w6 w6.heap.size G (leaveBeTo L cn L.length) := (hG4.below hx6).more hs6
            obtain ⟨gb, go, rfl, hgb, hgc⟩ := hG6 (by rw [leaveBeTo_len]; omega)
            have c1 := hgc k (by rw [leaveBeTo_len]; omega)
            rw [leaveBeTo_Z hlt] at c1
            have g1 := WB.cell (B := w6.heap.size) hgb c1
            have HL9 := Lib.hid (fun (W : World) (hW : Below w6.heap.size w6 W) => c_iLastLeave L D d W ((hD6.below hW).more hW.size) (by omega))
            clear o6 hb5 hb6 hE5 hx5 hgc c1 hb
            go_wp2_with fail
            refine wp_region_wb w6.heap.size (by kernel_rfl) (by kernel_rfl) ?_
            repeat (go_big_quiet_step (first | (go_at_call 22; exact Calls.inB (Nat.le_refl _) (HL9.out _ (WB.below _)))))
            refine wpQuiet_nil ?_
            rintro w7 ⟨⟨_, hb7⟩, rfl⟩
            have hx7 := hx6.trans (hb7.mono hs6)
            clear hb7 hx6 g1 HL9
            go_wp2_with fail
            go_loopw [10] (fun i wq => i = .int .i64 0 ∧ Below w4.heap.size w4 wq) (fun _ _ => 0)
            case atStart => exact ⟨rfl, hx7⟩
            case round =>
              obtain ⟨rfl, hbq⟩ := hrel
              have p2 : (0 : Int) < (L.length : Int) := by omega
              go_wp2_with fail
              go_roundw
              case rel => exact ⟨k + 1, by omega, by go_num, hbq⟩
              case measure => simp [intOf]; omega
          · rw [e1, e2] at HN
            have KLe := fun (E : Option Addr) (x : Nat) W hW (hx : (moreL L k).length ≤ x) => c_iLeavesBeside (moreL L k) E x (cn : Int) W hW hx (by rw [moreL_len]; omega)
            rw [e3, moreL_len] at KLe
            have HLe := Lib.hid KLe
            have HJ := Lib.hid hj9
            clear e1 e2 e3 KLe hj9
            have HML := Lib.hid (moreL_len L k)
            go_wp2_with fail
            refine HN.out.mono ?_
            rintro e w5 ⟨v5, rfl, o5, hb5⟩
            obtain ⟨E, e5, rfl, he5, -, hE5⟩ := o5.form
            rw [HML.out] at he5 ⊢
            have hx5 := hb.trans (hb5.mono hsz)
            clear o5
            simp only [laterV]
            go_wp2_with fail
            refine (HLe.out _ _ _ hE5 he5).mono ?_
            rintro e w6 ⟨v6, rfl, o6, hb6⟩
            obtain ⟨Q, q6, rfl, -, -, hQ⟩ := o6.form
            rw [leaveBeTo_len]
            have hx6 := hx5.trans (hb6.mono hx5.size)
            have hs6 := hx6.size
            have hD6 : Cs w6 w6.heap.size D L := (hD4.below hx6).more hs6
            have hG6 : Is w6 w6.heap.size G (leaveBeTo L cn L.length) := (hG4.below hx6).more hs6
            obtain ⟨gb, go, rfl, hgb, hgc⟩ := hG6 (by rw [leaveBeTo_len]; omega)
            have c1 := hgc k (by rw [leaveBeTo_len]; omega)
            rw [leaveBeTo_Z hlt] at c1
            have g1 := WB.cell (B := w6.heap.size) hgb c1
            have HL9 := Lib.hid (fun (W : World) (hW : Below w6.heap.size w6 W) => c_iLastLeave L D d W ((hD6.below hW).more hW.size) (by omega))
            have hne : ((L.length : Int) != (L.length : Int)) = false := by simp
            have HGC := Lib.hid hgc
            clear o6 hb5 hb6 hE5 hx5 hgc c1 hb
            go_wp2_with fail
            refine wp_region_wb w6.heap.size (by kernel_rfl) (by kernel_rfl) ?_
            repeat (go_big_quiet_step (first | (go_at_call 22; exact Calls.inB (Nat.le_refl _) (HL9.out _ (WB.below _)))))
            refine wpQuiet_nil ?_
            rintro w7 ⟨⟨_, hb7⟩, rfl⟩
            have hx7 := hx6.trans (hb7.mono hs6)
            clear hx6 g1 HL9
            go_wp2_with fail
            go_loopw [10] (fun i wq => ∃ j n : Nat, j ≤ L.length ∧ i = .int .i64 (j : Int) ∧ wq = w7.drewN n) (fun i _ => L.length - (intOf i).toNat)
            case atStart => exact ⟨0, 0, by omega, rfl, rfl⟩
            case round =>
              obtain ⟨j, nj, hjl, rfl, rfl⟩ := hrel
              by_cases hjt : j < L.length
              · obtain ⟨qb, qo, rfl, hqb, hqc⟩ := hQ (by rw [leaveBeTo_len]; omega)
                have c1 := (hb7.cell (p := ⟨gb, go + j, none⟩) hgb).trans (HGC.out j (by rw [leaveBeTo_len]; omega))
                have c2 := (hb7.cell (p := ⟨qb, qo + j, none⟩) hqb).trans (hqc j (by rw [leaveBeTo_len]; omega))
                rw [leaveBeTo_Z hjt] at c1 c2
                have dj : decide (bgn (moreL L k) cn j + Y (moreL L k) j < bgn L cn j + Y L j) = false := decide_eq_false (by have := HJ.out j hjt; omega)
                have p3 : (0 : Int) ≤ (j : Int) := by omega
                have p4 : (j : Int) < (L.length : Int) := by omega
                generalize bgn (moreL L k) cn j + Y (moreL L k) j = m1 at *
                generalize bgn L cn j + Y L j = m2 at *
                clear hqc
                go_wp2_with fail
                go_quiet (fail)
                go_wp2_with fail
                go_roundw
                case rel => exact ⟨j + 1, _, by omega, by go_num, rfl⟩
                case measure => simp [intOf]; omega
              · have p4 : ¬ (j : Int) < (L.length : Int) := by omega
                have hxq : Below w4.heap.size w4 (w7.drewN nj) := by (repeat (first | exact hx7 | exact Below.refl _ _ | (with_reducible refine Below.drew ?_) | (with_reducible refine Below.drewN ?_ _) | (with_reducible refine Below.alloc ?_ ?_ _) | (with_reducible refine Below.setCell ?_ ?_ _) | (show _ ≤ _; focus (first | omega | (simp; done) | (simp; omega)))))
                generalize w7.drewN nj = wz at *
                go_wp2_with fail
                go_roundw
                case rel => exact ⟨k + 1, by omega, by go_num, hxq⟩
                case measure => simp [intOf]; omega
        · have hlf : ¬ ((k : Int) < (L.length : Int)) := by omega
          go_wp2_with fail
          go_ret
          exact ⟨by first | rfl | (rw [heq]; rfl), k4.trans (hb.mono hs4)⟩
  · go_enter Try.func4, Try.ntmps4
    go_wp2_with fail
    go_ret
    exact ⟨rfl, Below.refl _ _⟩

end Go.Proofs.Ythoendonhkffkaa


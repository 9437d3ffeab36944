/- walks of the laws of chapter 11, third part: FnRoundEnds -/
import Derived.Test.YtecoefjkobpbgaaKT
import Derived.Test.YtecoefjkobpbgaaI10
import Derived.Test.YtecoefjkobpbgaaH
import Derived.Test.YtecoefjkobpbgaaS2
import Derived.Test.YtecoefjkobpbgaaR2
namespace Go.Proofs.Ytecoefjkobpbgaa
set_option linter.unusedVariables false
open Go.RowKit
attribute [local go_sem ↓] Go.wp_at_zero Go.wp_at_succ

def zeroTo (L : List (Int × Int)) : Nat → Bool
  | 0 => true
  | k + 1 => zeroTo L k && (X L k == 0)
theorem zeroTo_all {L : List (Int × Int)} : ∀ {n : Nat}, zeroTo L n = true → ∀ k, k < n → X L k = 0 := by
  intro n
  induction n with
  | zero => intro _ k hk; omega
  | succ n ih =>
    intro h k hk
    simp only [zeroTo, Bool.and_eq_true, beq_iff_eq] at h
    by_cases e : k = n
    · subst e; exact h.2
    · exact ih h.1 k (by omega)
theorem roundE_le (L : List (Int × Int)) : (ends L (roundR L)).length ≤ L.length := by
  unfold ends; split
  · rw [endsL_len]; omega
  · simp
theorem roundE_no {L : List (Int × Int)} (h : cOk L = false) : ends L (roundR L) = [] := ends_no (by
  cases hx : ordOk L (roundR L) with
  | false => rfl
  | true => have := (ordOk_parts hx).1; rw [h] at this; cases this)
theorem roundE_yes {L : List (Int × Int)} (h : cOk L = true) {T : Nat} (hT : lastLeave L = T) : ends L (roundR L) = endsL L (rrO L T) L.length := by
  rw [roundR_yes h hT]; exact ends_yes (rr_ok h hT)

set_option maxRecDepth 8000 in
set_option maxHeartbeats 8000000 in
theorem w_FnRoundEnds (A : Option Addr) (n c : Nat) (w : World) (h : Bs w w.heap.size A n) (hc : n ≤ c) :
    Calls Try.prog 6 #[.slice A n c] w fun e w' => e = .returned (.bool true) ∧ Below w.heap.size w w' := by
  by_cases hn : n ≤ 1048576
  · go_enter Try.func6, Try.ntmps6
    have k0 := Below.refl w.heap.size w
    have hs0 := k0.size
    go_wp2_with fail
    refine (c_DrawRoundEnds A n c _ h hn hc).mono ?_
    rintro e w1 ⟨L, v, rfl, hv, hl, hb1⟩
    obtain ⟨D, dd, rfl, hd1, hd2, hD1⟩ := hv.form
    clear hv h
    have k1 := k0.trans (hb1.mono hs0)
    have hs1 := k1.size
    clear k0 hb1
    have hel := roundE_le L
    go_wp2_with fail
    refine (c_iRoundEnds L D dd _ hD1 hd1 (by omega)).mono ?_
    rintro e w2 ⟨v2, rfl, o2, hb2⟩
    obtain ⟨G, g, rfl, hg1, hg2, hG2⟩ := o2.form
    clear o2
    have k2 := k1.trans (hb2.mono hs1)
    have hs2 := k2.size
    have hD2 := (hD1.below hb2).more hb2.size
    clear k1 hb2 hD1
    go_wp2_with fail
    refine (c_sRoundEnds L D dd _ hD2 (by omega)).mono ?_
    rintro e w3 ⟨v3, rfl, o3, hb3⟩
    obtain ⟨S, s, rfl, hg4, hg5, hS3⟩ := o3.form
    clear o3
    have k3 := k2.trans (hb3.mono hs2)
    have hs3 := k3.size
    have hD3 := (hD2.below hb3).more hb3.size
    have hG3 := (hG2.below hb3).more hb3.size
    clear k2 hb3 hD2 hG2
    go_wp2_with fail
    refine (c_sameInts (ends L (roundR L)) G S _ _ g s _ hG3 hS3 (by omega)).mono ?_
    rintro e w4 ⟨rfl, hb4⟩
    have k4 := k3.trans (hb4.mono hs3)
    have hs4 := k4.size
    have hD4 := (hD3.below hb4).more hb4.size
    have hG4 := (hG3.below hb4).more hb4.size
    have hS4 := (hS3.below hb4).more hb4.size
    clear k3 hb4 hD3 hG3 hS3
    clear hS4
    by_cases h0 : L.length = 0
    · have hz : (((ends L (roundR L)).length : Int) == 0) = true := beq_iff_eq.2 (by omega)
      have hz2 : ((L.length : Int) == 0) = true := beq_iff_eq.2 (by omega)
      clear h0 hel
      go_wp2_with fail
      refine (c_alive _).mono ?_
      rintro e w6 ⟨rfl, hb6⟩
      go_wp2_with fail
      go_ret
      exact ⟨rfl, k4.trans (hb6.mono hs4)⟩
    · have hzl : ((L.length : Int) == 0) = false := beq_eq_false_iff_ne.2 (by omega)
      cases hok : cOk L with
      | false =>
        have KC := fun W hW => c_iCustomersOk L D dd W hW (by omega)
        rw [hok] at KC
        have HC := Lib.hid KC
        rw [roundE_no hok]
        clear hok KC h0 hel
        go_wp2_with fail
        refine (HC.out _ hD4).mono ?_
        rintro e w5 ⟨rfl, hb5⟩
        have k5 := k4.trans (hb5.mono hs4)
        have hs5 := k5.size
        go_wp2_with fail
        refine (c_alive _).mono ?_
        rintro e w6 ⟨rfl, hb6⟩
        go_wp2_with fail
        go_ret
        exact ⟨rfl, k5.trans (hb6.mono hs5)⟩
      | true =>
        obtain ⟨T, hT, hT2⟩ := lastLeave_nat hok
        have hord := rr_ok hok hT
        have hol : (rrO L T).length = T := rrO_len L T
        rw [roundE_yes hok hT] at hG4 ⊢
        have hr := fun (hz : zeroTo L L.length = true) (j k : Nat) (hjk : j < k) (hk : k < L.length) => rr_ends hok hT (zeroTo_all hz) hjk hk
        have hn' := fun (k : Nat) (hk : k < L.length) => ends_need hord hk
        have he := fun (k : Nat) => endTo_le (rrO L T) k (rrO L T).length
        rw [hol] at hn' he
        have HR := Lib.hid hr
        have HN := Lib.hid hn'
        have HE := Lib.hid he
        have HX := Lib.hid (fun (k : Nat) (hk : k < L.length) => cOk_bd hok hk)
        have HLL := Lib.hid (fun W hW => show Calls Try.prog 28 #[.slice D L.length dd] W fun e w' => e = .returned (.int .i64 (T : Int)) ∧ Below W.heap.size W w' from by
          have := c_iLastLeave L D dd W hW (by omega)
          rw [hT] at this
          exact this)
        have HZ := Lib.hid (fun (j : Nat) (hj : j < L.length) => show Z (endsL L (rrO L T) L.length) j = endTo (rrO L T) j T from by rw [endsL_Z hj, hol])
        rw [endsL_len]
        obtain ⟨gb, go, rfl, hgb, hgc⟩ := hG4 (by rw [endsL_len]; omega)
        have hD4' : Cs w4 w4.heap.size D L := hD4
        obtain ⟨lb, lo, rfl, hlb, hlc⟩ := hD4' (by omega)
        have HG := Lib.hid (fun j (hj : j < L.length) => by have := hgc j (by rw [endsL_len]; exact hj); rw [HZ.out j hj] at this; exact this)
        have HL := Lib.hid hlc
        clear hr hn' he hok hord hol hT hgc hlc h0 hel hg4 hg1 hG4
        generalize rrO L T = o9 at *
        have hLL : ((L.length : Int) == (L.length : Int)) = true := by simp
        go_wp2_with fail
        go_loopw [5, 6] (fun z i wr => ∃ k : Nat, k ≤ L.length ∧ i = .int .i64 (k : Int) ∧ z = .bool (zeroTo L k) ∧ Below w4.heap.size w4 wr) (fun _ i _ => L.length - (intOf i).toNat)
        case atStart => exact ⟨0, by omega, rfl, rfl, Below.refl _ _⟩
        case round =>
          obtain ⟨k, hk, rfl, rfl, hb⟩ := hrel
          by_cases hlt : k < L.length
          · have p0 : (0 : Int) ≤ (k : Int) := by omega
            have p1 : (k : Int) < (L.length : Int) := by omega
            have c1 := (hb.cell (p := ⟨lb, lo + k * 2, none⟩) hlb).trans (HL.out k hlt).1
            have HS := Lib.hid (show zeroTo L (k + 1) = (zeroTo L k && (X L k == 0)) from rfl)
            generalize zeroTo L k = zk at *
            cases zk with
            | true =>
              go_wp2_with fail
              refine ⟨⟨k + 1, by omega, by go_num, by rw [HS.out]; rfl, hb⟩, ?_⟩
              simp [intOf]; omega
            | false =>
              go_wp2_with fail
              refine ⟨⟨k + 1, by omega, by go_num, by rw [HS.out]; rfl, hb⟩, ?_⟩
              simp [intOf]; omega
          · have p1 : ¬ (k : Int) < (L.length : Int) := by omega
            obtain rfl : k = L.length := by omega
            have HZZ := Lib.hid (fun (hz : zeroTo L L.length = true) => HR.out hz)
            generalize zeroTo L L.length = zz at *
            go_wp2_with fail
            go_loopw [7] (fun i wr => ∃ k : Nat, k ≤ L.length ∧ i = .int .i64 (k : Int) ∧ Below w4.heap.size w4 wr) (fun i _ => L.length - (intOf i).toNat)
            case atStart => exact ⟨0, by omega, rfl, hb⟩
            case round =>
              clear hb
              obtain ⟨k, hk, rfl, hb⟩ := hrel
              by_cases hlt : k < L.length
              · have p2 : (0 : Int) ≤ (k : Int) := by omega
                have p3 : (k : Int) < (L.length : Int) := by omega
                go_wp2_with fail
                go_loopw [8] (fun i wr => ∃ j : Nat, j ≤ k ∧ i = .int .i64 (j : Int) ∧ Below w4.heap.size w4 wr) (fun i _ => k - (intOf i).toNat)
                case atStart => exact ⟨0, by omega, rfl, hb⟩
                case round =>
                  clear hb
                  obtain ⟨j, hj, rfl, hb⟩ := hrel
                  by_cases hjt : j < k
                  · have p4 : (j : Int) < (k : Int) := by omega
                    have p5 : (0 : Int) ≤ (j : Int) := by omega
                    have p6 : (j : Int) < (L.length : Int) := by omega
                    cases zz with
                    | false =>
                      go_wp2_with fail
                      go_quiet (fail)
                      have hbq : Below w4.heap.size w4 (wr.drewN nq) := by (repeat (first | exact hb | exact Below.refl _ _ | (with_reducible refine Below.drew ?_) | (with_reducible refine Below.drewN ?_ _) | (with_reducible refine Below.alloc ?_ ?_ _) | (with_reducible refine Below.setCell ?_ ?_ _) | (show _ ≤ _; focus (first | omega | (simp; done) | (simp; omega)))))
                      generalize wr.drewN nq = wq at hbq ⊢
                      clear hb
                      go_wp2_with fail
                      go_roundw
                      case rel => exact ⟨j + 1, by omega, by go_num, hbq⟩
                      case measure => simp [intOf]; omega
                    | true =>
                      have c1 := (hb.cell (p := ⟨gb, go + j, none⟩) hgb).trans (HG.out j (by omega))
                      have c2 := (hb.cell (p := ⟨gb, go + k, none⟩) hgb).trans (HG.out k hlt)
                      have c3 := (hb.cell (p := ⟨lb, lo + j * 2 + 1, none⟩) hlb).trans (HL.out j (by omega)).2
                      have c4 := (hb.cell (p := ⟨lb, lo + k * 2 + 1, none⟩) hlb).trans (HL.out k hlt).2
                      have hiff := HZZ.out rfl j k hjt hlt
                      generalize endTo o9 j T = ej at *
                      generalize endTo o9 k T = ek at *
                      generalize Y L j = yj at *
                      generalize Y L k = yk at *
                      by_cases hy : yj ≤ yk
                      · have d1 : decide (yj ≤ yk) = true := decide_eq_true hy
                        have d2 : decide (ej < ek) = true := decide_eq_true (hiff.2 hy)
                        clear hiff hy
                        go_wp2_with fail
                        go_quiet (fail)
                        have hbq : Below w4.heap.size w4 (wr.drewN nq) := by (repeat (first | exact hb | exact Below.refl _ _ | (with_reducible refine Below.drew ?_) | (with_reducible refine Below.drewN ?_ _) | (with_reducible refine Below.alloc ?_ ?_ _) | (with_reducible refine Below.setCell ?_ ?_ _) | (show _ ≤ _; focus (first | omega | (simp; done) | (simp; omega)))))
                        generalize wr.drewN nq = wq at hbq ⊢
                        clear hb c1 c2 c3 c4 d1 d2
                        go_wp2_with fail
                        go_roundw
                        case rel => exact ⟨j + 1, by omega, by go_num, hbq⟩
                        case measure => simp [intOf]; omega
                      · have d1 : decide (yj ≤ yk) = false := decide_eq_false hy
                        have d2 : decide (ej < ek) = false := decide_eq_false (fun c => hy (hiff.1 c))
                        clear hiff hy
                        go_wp2_with fail
                        go_quiet (fail)
                        have hbq : Below w4.heap.size w4 (wr.drewN nq) := by (repeat (first | exact hb | exact Below.refl _ _ | (with_reducible refine Below.drew ?_) | (with_reducible refine Below.drewN ?_ _) | (with_reducible refine Below.alloc ?_ ?_ _) | (with_reducible refine Below.setCell ?_ ?_ _) | (show _ ≤ _; focus (first | omega | (simp; done) | (simp; omega)))))
                        generalize wr.drewN nq = wq at hbq ⊢
                        clear hb c1 c2 c3 c4 d1 d2
                        go_wp2_with fail
                        go_roundw
                        case rel => exact ⟨j + 1, by omega, by go_num, hbq⟩
                        case measure => simp [intOf]; omega
                  · have p4 : ¬ (j : Int) < (k : Int) := by omega
                    have c2 := WB.cell (w := wr) (B := wr.heap.size) (Nat.lt_of_lt_of_le hgb hb.size) ((hb.cell (p := ⟨gb, go + k, none⟩) hgb).trans (HG.out k hlt))
                    have c3 := WB.cell (w := wr) (B := wr.heap.size) (Nat.lt_of_lt_of_le hlb hb.size) ((hb.cell (p := ⟨lb, lo + k * 2, none⟩) hlb).trans (HL.out k hlt).1)
                    have c4 := WB.cell (w := wr) (B := wr.heap.size) (Nat.lt_of_lt_of_le hlb hb.size) ((hb.cell (p := ⟨lb, lo + k * 2 + 1, none⟩) hlb).trans (HL.out k hlt).2)
                    have hDr : Cs wr wr.heap.size (some ⟨lb, lo, none⟩) L := (hD4.below hb).more hb.size
                    have n1 := HN.out k hlt
                    have e1 := HE.out k
                    have b1 := HX.out k hlt
                    generalize endTo o9 k T = ek at *
                    have d1 : decide (ek < X L k + Y L k) = false := decide_eq_false (by omega)
                    have d2 : decide ((T : Int) < ek) = false := decide_eq_false (by omega)
                    have q1 : IntKind.i64.wrap (X L k + Y L k) = X L k + Y L k := IntWalk.i64_in _ (by omega)
                    have kr := hb.size
                    clear n1 e1 b1
                    go_wp2_with fail
                    refine wp_region_wb wr.heap.size (by kernel_rfl) (by kernel_rfl) ?_
                    repeat (go_big_quiet_step ((go_at_call 28; exact Calls.inB (Nat.le_refl _) (HLL.out _ (WB.cs _ hDr (Nat.le_refl _))))))
                    refine wpQuiet_nil ?_
                    rintro wz ⟨⟨_, hbz⟩, rfl⟩
                    have hx := hb.trans (hbz.mono kr)
                    clear d1 d2 q1 c2 c3 c4 hbz hb
                    go_wp2_with fail
                    go_roundw
                    case rel => exact ⟨k + 1, by omega, by go_num, hx⟩
                    case measure => simp [intOf]; omega
              · have p2 : ¬ (k : Int) < (L.length : Int) := by omega
                go_wp2_with fail
                go_ret
                exact ⟨rfl, k4.trans (hb.mono hs4)⟩
  · go_enter Try.func6, Try.ntmps6
    go_wp2_with fail
    go_ret
    exact ⟨rfl, Below.refl _ _⟩

end Go.Proofs.Ytecoefjkobpbgaa


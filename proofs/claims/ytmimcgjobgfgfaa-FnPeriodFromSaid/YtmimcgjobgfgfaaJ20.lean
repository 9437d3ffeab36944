/- walks of the laws of chapter 8, fourth part: FnPeriodFrom -/
import Derived.Test.YtmimcgjobgfgfaaKQ
import Derived.Test.YtmimcgjobgfgfaaI7
import Derived.Test.YtmimcgjobgfgfaaH
import Derived.Test.YtmimcgjobgfgfaaJ19
namespace Go.Proofs.Ytmimcgjobgfgfaa
set_option linter.unusedVariables false
open Go.RowKit
attribute [local go_sem ↓] Go.wp_at_zero Go.wp_at_succ

set_option maxRecDepth 4000 in
set_option maxHeartbeats 8000000 in
theorem w_FnPeriodFrom (A : Option Addr) (n c : Nat) (w : World) (h : Bs w w.heap.size A n) (hc : n ≤ c) :
    Calls Try.prog 4 #[.slice A n c] w fun e w' => e = .returned (.bool true) ∧ Below w.heap.size w w' := by
  by_cases hn : n ≤ 1048576
  · go_enter Try.func4, Try.ntmps4
    go_wp2_with fail
    refine (c_DrawPeriodFrom A n c _ h hn hc).mono ?_
    rintro e w1 ⟨L, v, t, rfl, hv, hl, -, ht, hb1⟩
    obtain ⟨D, d, rfl, hd1, hd2, hD⟩ := hv.form
    have hs1 := hb1.size
    clear hv h
    go_wp2_with fail
    refine (c_iPeriodFrom L D d t _ hD hd1 (by omega)).mono ?_
    rintro e w2 ⟨rfl, hb2⟩
    have k2 := hb1.trans (hb2.mono hs1)
    have hs2 := k2.size
    have hD2 := (hD.below hb2).more hb2.size
    clear hb1 hb2 hD
    go_wp2_with fail
    refine (c_sPeriodFrom L D d t _ hD2 (by omega)).mono ?_
    rintro e w3 ⟨rfl, hb3⟩
    have k3 := k2.trans (hb3.mono hs2)
    have hs3 := k3.size
    have hD3 := (hD2.below hb3).more hb3.size
    have hne : (perV L t != perV L t) = false := by simp
    clear k2 hb3 hD2
    cases hp : placeOk L t with
    | true =>
      have hPV := perV_yes hp
      obtain ⟨m, rfl, hml, hok⟩ := placeOk_nat hp
      rw [Int.toNat_natCast] at hPV
      have bm := cOk_bd hok hml
      have pm := perE_bd hok hml
      have hokm := cOk_drop hok m
      have hdl : (L.drop m).length = L.length - m := List.length_drop
      have FB := first_busy hokm (by omega)
      rw [X_drop, Nat.add_zero, perE_drop, Nat.add_zero, hdl] at FB
      have FB4 := Lib.hid (show (∀ k, m ≤ k → k < L.length → X L k ≠ perE L m) → Y (busyP (L.drop m)) 0 = perE L m from fun hh => FB.2.2.2 fun k hk => by rw [X_drop]; exact hh (m + k) (by omega) (by omega))
      obtain ⟨hP0, hPX, hPY, -⟩ := FB
      have hPlen := busyP_len (L.drop m)
      obtain ⟨b, off, rfl, hlb, hcc⟩ := hD3 (by omega)
      have HCC := Lib.hid (fun k (hk : k < L.length) => (hcc k hk).1)
      have HBD := Lib.hid (fun k (hk : k < L.length) => cOk_bd hok hk)
      have hD3' : Cs w3 w3.heap.size (some ⟨b, off, none⟩) L := fun _ => ⟨b, off, rfl, hlb, hcc⟩
      have hcs := hD3'.dropC m
      have HSB := Lib.hid (show Calls Try.prog 20 #[.slice (some ⟨b, off + m * 2, none⟩) (L.length - m) (d - m)] w3 fun e w' => ∃ v, e = .returned v ∧ (∃ vs, IOO w' w3.heap.size v (rows (busyP (L.drop m))) vs) ∧ Below w3.heap.size w3 w' from by
        have K := c_sBusyOf (L.drop m) (some ⟨b, off + m * 2, none⟩) (d - m) w3 hcs (by rw [hdl]; omega)
        rw [hdl] at K
        exact K)
      have cm1 := (hcc m hml).1
      have cm2 := (hcc m hml).2
      have p0 : (0 : Int) ≤ (m : Int) := by omega
      have p1 : (m : Int) < (L.length : Int) := by omega
      have p2 : (m : Int) ≤ (L.length : Int) := by omega
      have p3 : (m : Int) ≤ (d : Int) := by omega
      have p4 : ¬ (m : Int) < 0 := by omega
      have q1 : IntKind.i64.wrap (X L m + (perE L m - X L m)) = perE L m := by rw [IntWalk.i64_in _ (by omega)]; omega
      have d1 : decide (perE L m - X L m < 0) = false := decide_eq_false (by omega)
      have d2 : decide (Y L m ≤ perE L m - X L m) = true := decide_eq_true (by omega)
      rw [hPV] at hne ⊢
      clear hp hok hokm hcc hPV hcs hdl
      generalize busyP (L.drop m) = P at *
      generalize perE L m - X L m = q at *
      generalize perE L m = E at *
      go_wp2_with fail
      refine HSB.out.mono ?_
      rintro e w4 ⟨v4, rfl, ⟨vs4, o4⟩, hb4⟩
      have k4 := k3.trans (hb4.mono hs3)
      have hs4 := k4.size
      obtain ⟨O4, oc4, rfl, -, -, hO4⟩ := o4.form
      rw [rows_len] at hO4 ⊢
      obtain ⟨g0, rfl, -, hg0, hgc, -⟩ := hO4 hP0
      obtain ⟨ib, ic, hvs, -, hib, e0, e1⟩ := o4.pair hP0
      have e9 := hgc 0 hP0
      rw [hvs] at e9
      have c1 := (hb4.cell (p := ⟨b, off + m * 2, none⟩) hlb).trans cm1
      have c2 := (hb4.cell (p := ⟨b, off + m * 2 + 1, none⟩) hlb).trans cm2
      have hsz4 := hb4.size
      have HBK := Lib.hid hb4
      rw [hPX] at e0
      generalize Y P 0 = y at *
      clear HSB hgc hO4 hvs o4 cm1 cm2 hPX hb4 k3 hD3 hD3'
      go_wp2_with fail
      go_loopw [9, 8] (fun iv jv wr => ∃ (k : Nat) (jf : Bool), m ≤ k ∧ k ≤ L.length ∧ iv = .int .i64 k ∧ jv = .bool jf ∧ (jf = false → ∀ j, m ≤ j → j < k → X L j ≠ E) ∧ Below w4.heap.size w4 wr) (fun iv _ _ => L.length - (intOf iv).toNat)
      case atStart => exact ⟨m, false, by omega, by omega, rfl, rfl, fun _ j h1 h2 => by omega, Below.refl _ _⟩
      case round =>
        obtain ⟨k, jf, hmk, hk, rfl, rfl, hjf, hb⟩ := hrel
        have hsz := hb.size
        by_cases hlt : k < L.length
        · have r0 : (0 : Int) ≤ (k : Int) := by omega
          have r1 : (k : Int) < (L.length : Int) := by omega
          have ck := (hb.cell (p := ⟨b, off + k * 2, none⟩) (show b < w4.heap.size by omega)).trans ((HBK.out.cell (p := ⟨b, off + k * 2, none⟩) hlb).trans (HCC.out k hlt))
          cases jf with
          | true =>
            go_wp2_with fail
            go_roundw
            case rel => exact ⟨k + 1, true, by omega, by omega, by go_num, rfl, fun h => by simp at h, hb⟩
            case measure => simp [intOf]; omega
          | false =>
            have hjf' := Lib.hid (hjf rfl)
            clear hjf
            by_cases hx : X L k = E
            · have f1 : (X L k == E) = true := beq_iff_eq.2 hx
              clear hx
              go_wp2_with fail
              go_roundw
              case rel => exact ⟨k + 1, true, by omega, by omega, by go_num, rfl, fun h => by simp at h, hb⟩
              case measure => simp [intOf]; omega
            · have f1 : (X L k == E) = false := beq_eq_false_iff_ne.2 hx
              have hx' := Lib.hid hx
              clear hx
              go_wp2_with fail
              go_roundw
              case rel => exact ⟨k + 1, false, by omega, by omega, by go_num, rfl, fun _ j h1 h2 => if h3 : j = k then by rw [h3]; exact hx'.out else hjf'.out j h1 (by omega), hb⟩
              case measure => simp [intOf]; omega
        · obtain rfl : k = L.length := by omega
          have hlf : ¬ ((L.length : Int) < (L.length : Int)) := by omega
          have kr := k4.trans (hb.mono hs4)
          have d3 : decide ((0 : Int) < (P.length : Int)) = true := decide_eq_true (by omega)
          have d4 : (X L m == X L m) = true := by simp
          have d5 : decide (E ≤ y) = true := decide_eq_true hPY
          have z1 : (0 : Int) < (P.length : Int) := by omega
          have c1' := (hb.cell (p := ⟨b, off + m * 2, none⟩) (show b < w4.heap.size by omega)).trans c1
          have c2' := (hb.cell (p := ⟨b, off + m * 2 + 1, none⟩) (show b < w4.heap.size by omega)).trans c2
          have c3' := (hb.cell (p := ⟨g0, 0, none⟩) hg0).trans e9
          have c4' := (hb.cell (p := ⟨ib, 0, none⟩) hib).trans e0
          have c5' := (hb.cell (p := ⟨ib, 1, none⟩) hib).trans e1
          cases jf with
          | true =>
            clear hjf FB4
            go_wp2_with fail
            go_quiet (fail)
            go_wp2_with fail
            go_ret
            exact ⟨rfl, kr.trans (by (repeat (first | exact Below.refl wr.heap.size wr | exact Below.refl _ _ | (with_reducible refine Below.drew ?_) | (with_reducible refine Below.drewN ?_ _) | (with_reducible refine Below.alloc ?_ ?_ _) | (with_reducible refine Below.setCell ?_ ?_ _) | (show _ ≤ _; focus (first | omega | (simp; done) | (simp; omega))))))⟩
          | false =>
            have hy := FB4.out (hjf rfl)
            have d6 : (y == E) = true := beq_iff_eq.2 hy
            clear hjf FB4 hy
            go_wp2_with fail
            go_quiet (fail)
            go_wp2_with fail
            go_ret
            exact ⟨rfl, kr.trans (by (repeat (first | exact Below.refl wr.heap.size wr | exact Below.refl _ _ | (with_reducible refine Below.drew ?_) | (with_reducible refine Below.drewN ?_ _) | (with_reducible refine Below.alloc ?_ ?_ _) | (with_reducible refine Below.setCell ?_ ?_ _) | (show _ ≤ _; focus (first | omega | (simp; done) | (simp; omega))))))⟩
    | false =>
      rw [perV_no hp]
      clear hp hne
      go_wp2_with fail
      refine (c_alive _).mono ?_
      rintro e w5 ⟨rfl, hb5⟩
      go_wp2_with fail
      go_ret
      exact ⟨rfl, k3.trans (hb5.mono hs3)⟩
  · go_enter Try.func4, Try.ntmps4
    go_wp2_with fail
    go_ret
    exact ⟨rfl, Below.refl _ _⟩

end Go.Proofs.Ytmimcgjobgfgfaa


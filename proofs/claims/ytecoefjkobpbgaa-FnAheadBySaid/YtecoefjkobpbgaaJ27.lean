/- walks of the laws of chapter 11, first part: FnUnitsIn, FnAheadBy -/
import Derived.Test.YtecoefjkobpbgaaKT
import Derived.Test.YtecoefjkobpbgaaI10
import Derived.Test.YtecoefjkobpbgaaH
import Derived.Test.YtecoefjkobpbgaaS2
import Derived.Test.YtecoefjkobpbgaaQ2
namespace Go.Proofs.Ytecoefjkobpbgaa
set_option linter.unusedVariables false
open Go.RowKit
attribute [local go_sem ↓] Go.wp_at_zero Go.wp_at_succ

set_option maxRecDepth 8000 in
set_option maxHeartbeats 8000000 in
theorem w_FnUnitsIn (A : Option Addr) (n c : Nat) (w : World) (h : Bs w w.heap.size A n) (hc : n ≤ c) :
    Calls Try.prog 4 #[.slice A n c] w fun e w' => e = .returned (.bool true) ∧ Below w.heap.size w w' := by
  by_cases hn : n ≤ 1048576
  · go_enter Try.func4, Try.ntmps4
    have k0 := Below.refl w.heap.size w
    have hs0 := k0.size
    go_wp2_with fail
    refine (c_DrawUnitsIn A n c _ h hn hc).mono ?_
    rintro e w1 ⟨L, v, O, B, d, a, f, t, rfl, hv, hl, hO1, ho, hd, ha, hf, ht, hb1⟩
    obtain ⟨D, dd, rfl, hd1, hd2, hD1⟩ := hv.form
    clear hv h
    have k1 := k0.trans (hb1.mono hs0)
    have hs1 := k1.size
    clear k0 hb1
    go_wp2_with fail
    refine (c_iUnitsIn L O D B dd d a f t _ hD1 hO1 hd1 hd (by omega) (by omega)).mono ?_
    rintro e w2 ⟨rfl, hb2⟩
    have k2 := k1.trans (hb2.mono hs1)
    have hs2 := k2.size
    have hD2 := (hD1.below hb2).more hb2.size
    have hO2 := (hO1.below hb2).more hb2.size
    clear k1 hb2 hD1 hO1
    go_wp2_with fail
    refine (c_sUnitsIn L O D B dd d a f t _ hD2 hO2 (by omega) (by omega)).mono ?_
    rintro e w3 ⟨rfl, hb3⟩
    have k3 := k2.trans (hb3.mono hs2)
    have hs3 := k3.size
    have hD3 := (hD2.below hb3).more hb3.size
    have hO3 := (hO2.below hb3).more hb3.size
    clear k2 hb3 hD2 hO2
    cases hok : uiOk L O a f t with
    | false =>
      have hV := Lib.hid (unitsInV_no hok)
      rw [hV.out]
      clear hok
      go_wp2_with fail
      refine (c_alive _).mono ?_
      rintro e w4 ⟨rfl, hb4⟩
      go_wp2_with fail
      go_ret
      exact ⟨rfl, k3.trans (hb4.mono hs3)⟩
    | true =>
      obtain ⟨hord, ha9, hf9, ht9⟩ := uiOk_parts hok
      obtain ⟨an, rfl⟩ : ∃ an : Nat, a = (an : Int) := ⟨a.toNat, by omega⟩
      obtain ⟨m, hm⟩ : ∃ m : Int, (f + t) / 2 = m := ⟨_, rfl⟩
      have v1 := unitsInV_bd hok
      have v2 := units_parts hok (m := m) (by omega)
      have v3 := units_whole hok
      rw [Int.toNat_natCast] at v3
      have HK := Lib.hid (fun (x y z : Int) W hW hB => c_iUnitsIn L O D B dd d x y z W hW hB hd1 hd (by omega) (by omega))
      have q1 : IntKind.i64.wrap (f + t) = f + t := IntWalk.i64_in _ (by omega)
      have q2 : (f + t).tdiv 2 = m := by rw [Int.tdiv_eq_ediv_of_nonneg (by omega)]; exact hm
      have q3 : IntKind.i64.wrap m = m := IntWalk.i64_in _ (by omega)
      have d1 : (unitsInV L O (an : Int) f t == unitsInV L O (an : Int) f m + unitsInV L O (an : Int) m t) = true := beq_iff_eq.2 v2
      have d3 : (unitsInV L O (an : Int) 0 200 == Y L an) = true := beq_iff_eq.2 v3
      have q4 : IntKind.i64.wrap (unitsInV L O (an : Int) f m + unitsInV L O (an : Int) m t) = unitsInV L O (an : Int) f m + unitsInV L O (an : Int) m t := IntWalk.i64_in _ (by omega)
      clear v3 v2 hok hord hm
      generalize unitsInV L O (an : Int) f t = uv at *
      have hne : (uv != uv) = false := by simp
      have d0 : decide (uv < 0) = false := decide_eq_false (by omega)
      go_wp2_with fail
      have hD3' : Cs w3 w3.heap.size D L := hD3
      obtain ⟨b, off, rfl, hlb, hcc⟩ := hD3' (by omega)
      have c2 := WB.cell (w := w3) hlb (hcc an (by omega)).2
      have p0 : (0 : Int) ≤ (an : Int) := by omega
      have p1 : (an : Int) < (L.length : Int) := by omega
      have q5 : IntKind.i64.wrap (t - f) = t - f := IntWalk.i64_in _ (by omega)
      have d2 : decide (uv ≤ t - f) = true := decide_eq_true (by omega)
      clear hcc v1 q1 q2 q3
      refine wp_region_wb w3.heap.size (by kernel_rfl) (by kernel_rfl) ?_
      repeat (go_big_quiet_step ((go_at_call 20; exact Calls.inB (Nat.le_refl _) (HK.out _ _ _ _ (WB.cs _ hD3 (Nat.le_refl _)) (WB.is _ hO3 (Nat.le_refl _))))))
      refine wpQuiet_nil ?_
      rintro w4 ⟨⟨_, hb4⟩, rfl⟩
      clear q4 q5 d1 d2 d3 c2
      go_wp2_with fail
      go_ret
      exact ⟨rfl, k3.trans (hb4.mono hs3)⟩
  · go_enter Try.func4, Try.ntmps4
    go_wp2_with fail
    go_ret
    exact ⟨rfl, Below.refl _ _⟩

set_option maxRecDepth 8000 in
set_option maxHeartbeats 8000000 in
theorem w_FnAheadBy (A : Option Addr) (n c : Nat) (w : World) (h : Bs w w.heap.size A n) (hc : n ≤ c) :
    Calls Try.prog 5 #[.slice A n c] w fun e w' => e = .returned (.bool true) ∧ Below w.heap.size w w' := by
  by_cases hn : n ≤ 1048576
  · go_enter Try.func5, Try.ntmps5
    have k0 := Below.refl w.heap.size w
    have hs0 := k0.size
    go_wp2_with fail
    refine (c_DrawAheadBy A n c _ h hn hc).mono ?_
    rintro e w1 ⟨L, v, O, B, d, a, b, rfl, hv, hl, hO1, ho, hd, ha, hb, hb1⟩
    obtain ⟨D, dd, rfl, hd1, hd2, hD1⟩ := hv.form
    clear hv h
    have k1 := k0.trans (hb1.mono hs0)
    have hs1 := k1.size
    clear k0 hb1
    go_wp2_with fail
    refine (c_iAheadBy L O D B dd d a b _ hD1 hO1 hd1 hd (by omega) (by omega)).mono ?_
    rintro e w2 ⟨rfl, hb2⟩
    have k2 := k1.trans (hb2.mono hs1)
    have hs2 := k2.size
    have hD2 := (hD1.below hb2).more hb2.size
    have hO2 := (hO1.below hb2).more hb2.size
    clear k1 hb2 hD1 hO1
    go_wp2_with fail
    refine (c_sAheadBy L O D B dd d a b _ hD2 hO2 (by omega) (by omega)).mono ?_
    rintro e w3 ⟨rfl, hb3⟩
    have k3 := k2.trans (hb3.mono hs2)
    have hs3 := k3.size
    have hD3 := (hD2.below hb3).more hb3.size
    have hO3 := (hO2.below hb3).more hb3.size
    clear k2 hb3 hD2 hO2
    cases hok : aheadOk L O a b with
    | false =>
      have hV := Lib.hid (aheadV_no hok)
      rw [hV.out]
      clear hok
      go_wp2_with fail
      refine (c_alive _).mono ?_
      rintro e w4 ⟨rfl, hb4⟩
      go_wp2_with fail
      go_ret
      exact ⟨rfl, k3.trans (hb4.mono hs3)⟩
    | true =>
      obtain ⟨hord, ha9, hb9⟩ := aheadOk_parts hok
      obtain ⟨an, rfl⟩ : ∃ an : Nat, a = (an : Int) := ⟨a.toNat, by omega⟩
      obtain ⟨bn, rfl⟩ : ∃ bn : Nat, b = (bn : Int) := ⟨b.toNat, by omega⟩
      have v1 := ahead_bd hok
      rw [Int.toNat_natCast, Int.toNat_natCast] at v1
      have v2 := ahead_same (L := L) (o := O) (a := (an : Int)) (by simp only [aheadOk, hord, Bool.true_and, Bool.and_eq_true, decide_eq_true_eq]; exact ⟨ha9, ha9⟩)
      have HK := Lib.hid (fun (x y : Int) W hW hB => c_iAheadBy L O D B dd d x y W hW hB hd1 hd (by omega) (by omega))
      have heq : (aheadV L O (bn : Int) (an : Int) == aheadV L O (an : Int) (bn : Int)) = true := beq_iff_eq.2 (ahead_flip L O (an : Int) (bn : Int))
      have heq2 : (aheadV L O (an : Int) (an : Int) == 0) = true := beq_iff_eq.2 v2
      clear v2 hok hord
      generalize aheadV L O (an : Int) (bn : Int) = uv at *
      have hne : (uv != uv) = false := by simp
      have d0 : decide (uv < 0) = false := decide_eq_false (by omega)
      go_wp2_with fail
      have hD3' : Cs w3 w3.heap.size D L := hD3
      obtain ⟨g, off, rfl, hlb, hcc⟩ := hD3' (by omega)
      have c1 := WB.cell (w := w3) hlb (hcc an (by omega)).2
      have c2 := WB.cell (w := w3) hlb (hcc bn (by omega)).2
      have p0 : (0 : Int) ≤ (an : Int) := by omega
      have p1 : (an : Int) < (L.length : Int) := by omega
      have p2 : (0 : Int) ≤ (bn : Int) := by omega
      have p3 : (bn : Int) < (L.length : Int) := by omega
      by_cases hxy : Y L an < Y L bn
      · have d1 : decide (Y L an < Y L bn) = true := decide_eq_true hxy
        have d2 : decide (uv ≤ Y L bn) = true := decide_eq_true (by omega)
        clear hcc v1
        refine wp_region_wb w3.heap.size (by kernel_rfl) (by kernel_rfl) ?_
        repeat (go_big_quiet_step ((go_at_call 17; exact Calls.inB (Nat.le_refl _) (HK.out _ _ _ (WB.cs _ hD3 (Nat.le_refl _)) (WB.is _ hO3 (Nat.le_refl _))))))
        refine wpQuiet_nil ?_
        rintro w4 ⟨⟨_, hb4⟩, rfl⟩
        clear d1 d2 c1 c2
        go_wp2_with fail
        go_ret
        exact ⟨rfl, k3.trans (hb4.mono hs3)⟩
      · have d1 : decide (Y L an < Y L bn) = false := decide_eq_false hxy
        have d2 : decide (uv ≤ Y L an) = true := decide_eq_true (by omega)
        clear hcc v1
        refine wp_region_wb w3.heap.size (by kernel_rfl) (by kernel_rfl) ?_
        repeat (go_big_quiet_step ((go_at_call 17; exact Calls.inB (Nat.le_refl _) (HK.out _ _ _ (WB.cs _ hD3 (Nat.le_refl _)) (WB.is _ hO3 (Nat.le_refl _))))))
        refine wpQuiet_nil ?_
        rintro w4 ⟨⟨_, hb4⟩, rfl⟩
        clear d1 d2 c1 c2
        go_wp2_with fail
        go_ret
        exact ⟨rfl, k3.trans (hb4.mono hs3)⟩
  · go_enter Try.func5, Try.ntmps5
    go_wp2_with fail
    go_ret
    exact ⟨rfl, Below.refl _ _⟩

end Go.Proofs.Ytecoefjkobpbgaa


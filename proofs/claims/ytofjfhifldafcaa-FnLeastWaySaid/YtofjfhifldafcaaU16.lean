/- Chapter 9's functions of the program, first part: Both.ok, BothOk; bothLeaves.next, LeavesBoth; fold, longestWay, LongestWay; arranged, InOrder. -/
import Derived.Test.YtofjfhifldafcaaM36
import Derived.Test.YtofjfhifldafcaaK22
namespace Go.Proofs.Ytofjfhifldafcaa
set_option linter.unusedVariables false
open Go.RowKit
attribute [local go_sem ↓] Go.wp_at_zero Go.wp_at_succ

def bokB (x y : Int) : Bool := decide (1 ≤ x ∧ x ≤ 9) && decide (1 ≤ y ∧ y ≤ 9)
theorem bokB_iff {x y : Int} : bokB x y = true ↔ (1 ≤ x ∧ x ≤ 9) ∧ 1 ≤ y ∧ y ≤ 9 := by simp [bokB]

set_option maxHeartbeats 400000 in
theorem c_bothOk (x y : Int) (w : World) :
    Calls Try.prog 56 #[.agg #[.int .i64 x, .int .i64 y]] w fun e w' => e = .returned (.bool (bokB x y)) ∧ Below w.heap.size w w' := by
  by_cases h1 : 1 ≤ x ∧ x ≤ 9
  · have h1' : decide (1 ≤ x ∧ x ≤ 9) = true := by simpa using h1
    go_enter Try.func56, Try.ntmps56
    go_wp2_with (go_at_call 53; refine (c_within _ _ _ _).mono ?_; rintro e w' ⟨rfl, rfl⟩)
    go_ret
    exact ⟨by simp [bokB, h1], (Below.refl _ _).alloc (Nat.le_refl _) _⟩
  · have h1' : decide (1 ≤ x ∧ x ≤ 9) = false := by simpa using h1
    go_enter Try.func56, Try.ntmps56
    go_wp2_with (go_at_call 53; refine (c_within _ _ _ _).mono ?_; rintro e w' ⟨rfl, rfl⟩)
    go_ret
    exact ⟨by simp [bokB, h1], (Below.refl _ _).alloc (Nat.le_refl _) _⟩

set_option maxHeartbeats 400000 in
theorem c_bothNot (x y : Int) (w : World) :
    Calls Try.prog 55 #[.agg #[.int .i64 x, .int .i64 y]] w fun e w' => e = .returned (.bool (!bokB x y)) ∧ Below w.heap.size w w' := by
  go_enter Try.func55, Try.ntmps55
  go_wp2_with fail
  refine (c_bothOk _ _ _).mono ?_
  rintro e w' ⟨rfl, hb1⟩
  go_wp2_with fail
  go_ret
  exact ⟨rfl, ((Below.refl w.heap.size w).alloc (Nat.le_refl _) _).trans (hb1.mono (by simp))⟩

set_option maxHeartbeats 2000000 in
theorem c_indexBoth (L : List (Int × Int)) (A : Option Addr) (c : Nat) (w : World) (hA : Cs w w.heap.size A L) (hn : L.length ≤ 140737488351232) :
    Calls Try.prog 76 #[.slice A L.length c, .func (.func 55) #[] #[]] w fun e w' => (∃ i : Int, e = .returned (.int .i64 i) ∧ decide (0 ≤ i) = !bOkTo L L.length) ∧ Below w.heap.size w w' := by
  go_enter Try.func76, Try.ntmps76
  go_wp2_with fail
  go_loopw [8] (fun i wr => ∃ k : Nat, k ≤ L.length ∧ i = .int .i64 k ∧ Hid (bOkTo L k = true) ∧ Below w.heap.size w wr) (fun i _ => L.length - (intOf i).toNat)
  case atStart => exact ⟨0, by omega, rfl, rfl, Below.refl _ _⟩
  case round =>
    obtain ⟨k, hk, rfl, HN, hb⟩ := hrel
    have hsz := hb.size
    by_cases hlt : k < L.length
    · obtain ⟨b, off, rfl, hlb, hc⟩ := hA (by omega)
      have c1 := (hb.cell (p := ⟨b, off + k * 2, none⟩) hlb).trans (hc k hlt).1
      have c2 := (hb.cell (p := ⟨b, off + k * 2 + 1, none⟩) hlb).trans (hc k hlt).2
      have p1 : (0 : Int) ≤ (k : Int) := by omega
      have p2 : (k : Int) < (L.length : Int) := by omega
      clear hc
      cases hz : bokB (X L k) (Y L k) with
      | false =>
        have HB := Lib.hid (show decide ((0 : Int) ≤ (k : Int)) = !bOkTo L L.length by
          cases h : bOkTo L L.length with
          | true => have := bokB_iff.2 (bOkTo_iff.1 h k hlt); rw [hz] at this; cases this
          | false => simp)
        have HZ := Lib.hid hz
        clear hz
        go_wp2_with fail
        refine (c_bothNot _ _ _).mono ?_
        rintro e w1 ⟨rfl, hb1⟩
        rw [HZ.out]
        go_wp2_with fail
        go_ret
        exact ⟨⟨_, rfl, HB.out⟩, hb.trans (hb1.mono hsz)⟩
      | true =>
        have HB := Lib.hid (show bOkTo L (k + 1) = true by have h := bokB_iff.1 hz; exact bOkTo_step HN.out h.1 h.2)
        have HZ := Lib.hid hz
        clear hz
        go_wp2_with fail
        refine (c_bothNot _ _ _).mono ?_
        rintro e w1 ⟨rfl, hb1⟩
        rw [HZ.out]
        go_wp2_with fail
        go_roundw
        case rel => exact ⟨k + 1, by omega, by go_num, HB, hb.trans (hb1.mono hsz)⟩
        case measure => simp [intOf]; omega
    · have hlf : ¬ ((k : Int) < (L.length : Int)) := by omega
      obtain rfl : k = L.length := by omega
      go_wp2_with fail
      go_ret
      exact ⟨⟨_, rfl, by rw [HN.out]; rfl⟩, hb⟩

theorem c_containsBoth (L : List (Int × Int)) (A : Option Addr) (c : Nat) (w : World) (hA : Cs w w.heap.size A L) (hn : L.length ≤ 140737488351232) :
    Calls Try.prog 54 #[.slice A L.length c, .func (.func 55) #[] #[]] w fun e w' => e = .returned (.bool (!bOkTo L L.length)) ∧ Below w.heap.size w w' := by
  go_enter Try.func54, Try.ntmps54
  go_wp2_with fail
  refine (c_indexBoth L A c w hA hn).mono ?_
  rintro e w1 ⟨⟨i, rfl, hi⟩, hb1⟩
  go_wp2_with fail
  go_ret
  rw [← hi]
  exact ⟨rfl, hb1⟩

set_option maxHeartbeats 1000000 in
theorem c_iBothOk (L : List (Int × Int)) (A : Option Addr) (c : Nat) (w : World) (hA : Cs w w.heap.size A L) (hn : L.length ≤ 140737488351232) :
    Calls Try.prog 18 #[.slice A L.length c] w fun e w' => e = .returned (.bool (bOk L)) ∧ Below w.heap.size w w' := by
  have HC := Lib.hid (c_containsBoth L A c w hA hn)
  have hv : bOk L = (bOkTo L L.length && decide (1 ≤ (L.length : Int) ∧ (L.length : Int) ≤ 6)) := rfl
  by_cases h1 : 1 ≤ (L.length : Int) ∧ (L.length : Int) ≤ 6
  · rw [decide_eq_true h1, Bool.and_true] at hv
    have HV := Lib.hid hv
    have HD := Lib.hid (decide_eq_true h1)
    clear hv h1
    go_enter Try.func18, Try.ntmps18
    go_wp2_with fail
    refine (c_within _ _ _ _).mono ?_
    rintro e w' ⟨rfl, rfl⟩
    rw [HD.out]
    go_wp2_with fail
    refine HC.out.mono ?_
    rintro e w' ⟨rfl, hb1⟩
    go_wp2_with fail
    go_ret
    exact ⟨by rw [HV.out]; rfl, hb1⟩
  · rw [decide_eq_false h1, Bool.and_false] at hv
    have HV := Lib.hid hv
    have HD := Lib.hid (decide_eq_false h1)
    clear hv h1 HC
    go_enter Try.func18, Try.ntmps18
    go_wp2_with fail
    refine (c_within _ _ _ _).mono ?_
    rintro e w' ⟨rfl, rfl⟩
    rw [HD.out]
    go_wp2_with fail
    go_ret
    exact ⟨by rw [HV.out]; rfl, Below.refl _ _⟩

/-! LeavesBoth -/

set_option maxHeartbeats 1000000 in
theorem c_next (a b x y : Int) (w : World) (ha : 0 ≤ a ∧ a ≤ 1000) (hb : 0 ≤ b ∧ b ≤ 1000) (hx : 0 ≤ x ∧ x ≤ 1000) (hy : 0 ≤ y ∧ y ≤ 1000) :
    Calls Try.prog 59 #[.agg #[.int .i64 a, .int .i64 b], .agg #[.int .i64 x, .int .i64 y]] w fun e w' => e = .returned (.agg #[.int .i64 (a + x), .int .i64 (max (a + x) b + y)]) ∧ Below w.heap.size w w' := by
  have q1 : IntKind.i64.wrap (a + x) = a + x := IntWalk.i64_in _ (by omega)
  by_cases h : a + x < b
  · have q2 : IntKind.i64.wrap (b + y) = b + y := IntWalk.i64_in _ (by omega)
    have HM := Lib.hid (show max (a + x) b = b by omega)
    clear ha hb hx hy
    go_enter Try.func59, Try.ntmps59
    go_wp2
    refine bodyPost_ret (v := .agg #[.int .i64 (a + x), .int .i64 (b + y)]) (by simp [results, Try.results59, go_sem]) rfl ?_
    rw [HM.out]
    exact ⟨rfl, by (repeat (first | exact rfl | exact Below.refl _ _ | (with_reducible refine Below.drew ?_) | (with_reducible refine Below.drewN ?_ _) | (with_reducible refine Below.alloc ?_ ?_ _) | (with_reducible refine Below.setCell ?_ ?_ _) | (show _ ≤ _; focus (first | omega | (simp; done) | (simp; omega)))))⟩
  · have q2 : IntKind.i64.wrap (a + x + y) = a + x + y := IntWalk.i64_in _ (by omega)
    have HM := Lib.hid (show max (a + x) b = a + x by omega)
    clear ha hb hx hy
    go_enter Try.func59, Try.ntmps59
    go_wp2
    refine bodyPost_ret (v := .agg #[.int .i64 (a + x), .int .i64 (a + x + y)]) (by simp [results, Try.results59, go_sem]) rfl ?_
    rw [HM.out]
    exact ⟨rfl, by (repeat (first | exact rfl | exact Below.refl _ _ | (with_reducible refine Below.drew ?_) | (with_reducible refine Below.drewN ?_ _) | (with_reducible refine Below.alloc ?_ ?_ _) | (with_reducible refine Below.setCell ?_ ?_ _) | (show _ ≤ _; focus (first | omega | (simp; done) | (simp; omega)))))⟩

end Go.Proofs.Ytofjfhifldafcaa


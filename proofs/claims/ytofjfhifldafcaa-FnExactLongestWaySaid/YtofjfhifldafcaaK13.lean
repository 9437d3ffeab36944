/- spec.TasksOk, EachOnce, WeightedSum (ahead of the landing) -/
import Derived.Test.YtofjfhifldafcaaB
import Derived.Test.YtofjfhifldafcaaO
import Derived.Test.YtofjfhifldafcaaM21
namespace Go.Proofs.Ytofjfhifldafcaa
set_option linter.unusedVariables false
open Go.RowKit
attribute [local go_sem ↓] Go.wp_at_zero Go.wp_at_succ

theorem tOk_bad {L : List (Int × Int)} {k : Nat} (hk : k < L.length) (h : ¬ ((1 ≤ X L k ∧ X L k ≤ 9) ∧ 0 ≤ Y L k ∧ Y L k ≤ 9)) : tOk L = false := by
  cases e : tOk L with
  | false => rfl
  | true => exact absurd ((tOk_parts e).1 k hk) h
theorem tOkTo_step {L : List (Int × Int)} {k : Nat} (h : tOkTo L k = true) (h1 : 1 ≤ X L k ∧ X L k ≤ 9) (h2 : 0 ≤ Y L k ∧ Y L k ≤ 9) : tOkTo L (k + 1) = true := by
  simp only [tOkTo, h, Bool.true_and, decide_eq_true_eq]; exact ⟨h1, h2⟩

theorem eachTo_step {o : List Int} {n : Int} {k : Nat} (h : eachTo o n k = true) (h1 : 0 ≤ Z o k ∧ Z o k ≤ n - 1) (h2 : newAt o k k = true) : eachTo o n (k + 1) = true := by
  simp only [eachTo, h, h2, decide_eq_true h1, Bool.and_self]
theorem each_bad {o : List Int} {n b : Int} {k : Nat} (hb : (1 ≤ n ∧ n ≤ 6) → b = n - 1) (hk : k < o.length) (h : ¬ ((0 ≤ Z o k ∧ Z o k ≤ b) ∧ ∀ j, j < k → Z o j ≠ Z o k)) : eachV o n = false := by
  cases e : eachV o n with
  | false => rfl
  | true =>
    have h' := e
    simp only [eachV, Bool.and_eq_true, decide_eq_true_eq] at e
    have x := (eachTo_iff.1 e.1) k hk
    have y := hb e.2.1
    exact absurd ⟨⟨x.1.1, by omega⟩, x.2⟩ h
theorem each_end {o : List Int} {n b : Int} (hb : (1 ≤ n ∧ n ≤ 6) → b = n - 1) (h : eachTo o (b + 1) o.length = true) : eachV o n = (decide (1 ≤ n ∧ n ≤ 6) && decide ((o.length : Int) = n)) := by
  by_cases hn : 1 ≤ n ∧ n ≤ 6
  · rw [show b + 1 = n by have := hb hn; omega] at h
    rw [eachV, h, Bool.true_and]
  · simp [eachV, hn]

set_option maxRecDepth 4000 in
set_option maxHeartbeats 4000000 in
theorem c_sEachOnce (o : List Int) (O : Option Addr) (d : Nat) (n : Int) (w : World) (hO : Is w w.heap.size O o) (ho : o.length ≤ 140737488351232) :
    Calls Try.prog 66 #[.slice O o.length d, .int .i64 n] w fun e w' => e = .returned (.bool (eachV o n)) ∧ Below w.heap.size w w' := by
  have hb : (1 ≤ n ∧ n ≤ 6) → IntKind.i64.wrap (n - 1) = n - 1 := fun h => IntWalk.i64_in _ (by omega)
  obtain ⟨m, hm⟩ : ∃ m, IntKind.i64.wrap (n - 1) = m := ⟨_, rfl⟩
  rw [hm] at hb
  have HE := Lib.hid (fun (b : Int) (hb : (1 ≤ n ∧ n ≤ 6) → b = n - 1) => @each_end o n b hb)
  have HX := Lib.hid (fun (b : Int) (hb : (1 ≤ n ∧ n ≤ 6) → b = n - 1) k => @each_bad o n b k hb)
  have HL := Lib.hid (fun k W => c_l1In (Z o k) 0 (m) W)
  have HM := Lib.hid (fun W => c_l1In n 1 6 W)
  have hHb := Lib.hid hb
  clear hb
  go_enter Try.func66, Try.ntmps66
  go_wp2_with fail
  go_loopw [5] (fun i wr => ∃ k : Nat, k ≤ o.length ∧ i = .int .i64 k ∧ Hid (eachTo o (m + 1) k = true) ∧ Below w.heap.size w wr) (fun i _ => o.length - (intOf i).toNat)
  case atStart => exact ⟨0, Nat.zero_le _, rfl, rfl, Below.refl _ _⟩
  case round =>
    obtain ⟨k, hk, rfl, hok, hbw⟩ := hrel
    by_cases hlt : k < o.length
    · obtain ⟨b, off, rfl, hlb, hc⟩ := hO (by omega)
      have c1 := (hbw.cell (p := ⟨b, off + k, none⟩) hlb).trans (hc k hlt)
      by_cases h1 : 0 ≤ Z o k ∧ Z o k ≤ m
      · have HD := Lib.hid (decide_eq_true h1)
        have H1 := Lib.hid h1
        clear h1
        go_wp2_with fail
        refine (HL.out k _).mono ?_
        rintro e w' ⟨rfl, rfl⟩
        rw [HD.out]
        go_wp2_with fail
        go_loopw [6] (fun i wr => ∃ j : Nat, j ≤ k ∧ i = .int .i64 j ∧ Hid (newAt o k j = true) ∧ Below w.heap.size w wr) (fun i _ => k - (intOf i).toNat)
        case atStart => exact ⟨0, Nat.zero_le _, rfl, rfl, hbw⟩
        case round =>
          obtain ⟨j, hj, rfl, hnew, hbj⟩ := hrel
          by_cases hjk : j < k
          · have d1 := (hbj.cell (p := ⟨b, off + k, none⟩) hlb).trans (hc k hlt)
            have d2 := (hbj.cell (p := ⟨b, off + j, none⟩) hlb).trans (hc j (by omega))
            have p1 : (0 : Int) ≤ (j : Int) := by omega
            have p2 : (j : Int) < (o.length : Int) := by omega
            have p3 : (0 : Int) ≤ (k : Int) := by omega
            have p4 : (k : Int) < (o.length : Int) := by omega
            have p5 : (j : Int) < (k : Int) := by omega
            have hHc := Lib.hid hc
            clear hc c1
            by_cases he : Z o j = Z o k
            · have HB := Lib.hid (HX.out _ hHb.out k hlt (fun h => h.2 j hjk he))
              have de : (Z o j == Z o k) = true := beq_iff_eq.2 he
              clear he
              go_wp2_with fail
              go_quiet (fail)
              clear d1 d2
              have hbq : Below w.heap.size w (wr.drewN nq) := by (repeat (first | exact hbj | exact Below.refl _ _ | (with_reducible refine Below.drew ?_) | (with_reducible refine Below.drewN ?_ _) | (with_reducible refine Below.alloc ?_ ?_ _) | (with_reducible refine Below.setCell ?_ ?_ _) | (show _ ≤ _; focus (first | omega | (simp; done) | (simp; omega)))))
              generalize wr.drewN nq = wq at hbq ⊢
              go_wp2_with fail
              go_ret
              exact ⟨by rw [HB.out]; rfl, hbq⟩
            · have de : (Z o j == Z o k) = false := by simpa using he
              go_wp2_with fail
              go_quiet (fail)
              clear d1 d2
              have hbq : Below w.heap.size w (wr.drewN nq) := by (repeat (first | exact hbj | exact Below.refl _ _ | (with_reducible refine Below.drew ?_) | (with_reducible refine Below.drewN ?_ _) | (with_reducible refine Below.alloc ?_ ?_ _) | (with_reducible refine Below.setCell ?_ ?_ _) | (show _ ≤ _; focus (first | omega | (simp; done) | (simp; omega)))))
              generalize wr.drewN nq = wq at hbq ⊢
              go_wp2_with fail
              go_roundw
              case rel =>
                refine ⟨j + 1, by omega, by go_num, ?_, hbq⟩
                exact (by simp only [newAt, hnew.out, Bool.true_and, decide_eq_true_eq]; exact he : newAt o k (j + 1) = true)
              case measure => simp [intOf]; omega
          · have hjf : ¬ ((j : Int) < (k : Int)) := by omega
            obtain rfl : j = k := by omega
            go_wp2_with fail
            go_roundw
            case rel => exact ⟨j + 1, by omega, by go_num, eachTo_step hok.out (by have := H1.out; omega) hnew.out, hbj⟩
            case measure => simp [intOf]; omega
      · have HD := Lib.hid (decide_eq_false h1)
        have HB := Lib.hid (HX.out _ hHb.out k hlt (fun h => h1 h.1))
        clear h1 hc
        go_wp2_with fail
        refine (HL.out k _).mono ?_
        rintro e w' ⟨rfl, rfl⟩
        rw [HD.out]
        go_wp2_with fail
        go_ret
        exact ⟨by rw [HB.out]; rfl, hbw⟩
    · have hlf : ¬ ((k : Int) < (o.length : Int)) := by omega
      obtain rfl : k = o.length := by omega
      have HV := HE.out _ hHb.out hok.out
      by_cases hn : 1 ≤ n ∧ n ≤ 6
      · have HD := Lib.hid (decide_eq_true hn)
        rw [HD.out, Bool.true_and] at HV
        have HV' := Lib.hid HV
        clear HV hn
        by_cases he : (o.length : Int) = n
        · have HV2 := Lib.hid (HV'.out.trans (decide_eq_true he))
          go_wp2_with fail
          refine (HM.out _).mono ?_
          rintro e w' ⟨rfl, rfl⟩
          rw [HD.out]
          go_wp2_with fail
          go_ret
          exact ⟨by rw [HV2.out]; first | rfl | simp [he], hbw⟩
        · have HV2 := Lib.hid (HV'.out.trans (decide_eq_false he))
          have de : ((o.length : Int) == n) = false := by simpa using he
          go_wp2_with fail
          refine (HM.out _).mono ?_
          rintro e w' ⟨rfl, rfl⟩
          rw [HD.out]
          go_wp2_with fail
          go_ret
          exact ⟨by rw [HV2.out]; first | rfl | simp [he], hbw⟩
      · have HD := Lib.hid (decide_eq_false hn)
        rw [HD.out, Bool.false_and] at HV
        have HV' := Lib.hid HV
        clear HV hn
        go_wp2_with fail
        refine (HM.out _).mono ?_
        rintro e w' ⟨rfl, rfl⟩
        rw [HD.out]
        go_wp2_with fail
        go_ret
        exact ⟨by rw [HV'.out]; rfl, hbw⟩

end Go.Proofs.Ytofjfhifldafcaa


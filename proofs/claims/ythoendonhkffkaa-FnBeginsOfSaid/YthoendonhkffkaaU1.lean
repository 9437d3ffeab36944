/- impl.needsOf, the methods serve and any of unitsLeft, mayServe, OrderOk -/
import Derived.Test.YthoendonhkffkaaK9
import Derived.Test.YthoendonhkffkaaR2
import Derived.Test.YthoendonhkffkaaG
namespace Go.Proofs.Ythoendonhkffkaa
set_option linter.unusedVariables false
open Go.RowKit
attribute [local go_sem ↓] Go.wp_at_zero Go.wp_at_succ

theorem noneLeft_succ (lf : List Int) (n : Nat) : noneLeft lf (n + 1) = (noneLeft lf n && decide (Z lf n ≤ 0)) := rfl

/-- may the customer be served now -/
def mayV (L : List (Int × Int)) (lf : List Int) (t : Nat) (who : Int) : Bool := decide (who = -1) || (decide (0 ≤ who ∧ who ≤ (L.length : Int) - 1) && decide (X L who.toNat ≤ t) && decide (0 < Z lf who.toNat))

theorem mayV_unit {L : List (Int × Int)} {o : List Int} {t : Nat} (hr : ∀ k, k < L.length → 0 ≤ Z (leftOf L o t) k) : mayV L (leftOf L o t) t (Z o t) = unitOk L o t := by
  unfold mayV unitOk
  by_cases h1 : Z o t = -1
  · rw [h1]; simp; omega
  · by_cases h2 : 0 ≤ Z o t ∧ Z o t ≤ (L.length : Int) - 1
    · have r := hr (Z o t).toNat (by omega)
      have e1 : decide (Z o t < 0) = false := decide_eq_false (by omega)
      have e2 : decide (-1 ≤ Z o t ∧ Z o t ≤ (L.length : Int) - 1) = true := decide_eq_true (by omega)
      have e3 : decide (0 < Z (leftOf L o t) (Z o t).toNat) = decide (Z (leftOf L o t) (Z o t).toNat ≠ 0) := by
        rw [decide_eq_decide]; omega
      rw [decide_eq_false h1, decide_eq_true h2, e1, e2, e3]; rfl
    · have e1 : decide (0 ≤ Z o t ∧ Z o t ≤ (L.length : Int) - 1) = false := decide_eq_false h2
      have e2 : decide (-1 ≤ Z o t ∧ Z o t ≤ (L.length : Int) - 1) = false := decide_eq_false (by omega)
      rw [decide_eq_false h1, e1, e2]; rfl
theorem ordOk_cust {L : List (Int × Int)} {o : List Int} (h : cOk L = false) : ordOk L o = false := by simp [ordOk, h]
theorem ordOk_long {L : List (Int × Int)} {o : List Int} (h : ¬ (o.length : Int) ≤ 200) : ordOk L o = false := by
  have : decide (o.length ≤ 200) = false := decide_eq_false (by omega)
  simp [ordOk, this]
theorem ordOk_unit {L : List (Int × Int)} {o : List Int} {t : Nat} (ht : t < o.length) (h : unitOk L o t = false) : ordOk L o = false := by
  have : unitsOk L o o.length = false := by
    refine Bool.eq_false_iff.2 fun hu => ?_
    rw [unitsOk_at _ hu t ht] at h; cases h
  simp [ordOk, this]

end Go.Proofs.Ythoendonhkffkaa


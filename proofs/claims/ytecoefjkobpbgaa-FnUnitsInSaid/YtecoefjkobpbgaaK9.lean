/- spec.ChangesOf (ahead of the landing) -/
import Derived.Test.YtecoefjkobpbgaaK8
namespace Go.Proofs.Ytecoefjkobpbgaa
set_option linter.unusedVariables false
open Go.RowKit
attribute [local go_sem ↓] Go.wp_at_zero Go.wp_at_succ

theorem chTo_one (o E : List Int) : chTo o E 1 = 0 := by simp [chTo]
theorem chTo_end (o E : List Int) {t : Nat} (h : t = max 1 o.length) : chTo o E t = chTo o E o.length := by
  by_cases h0 : o.length = 0
  · rw [h0] at h ⊢; rw [h]; exact chTo_one o E
  · rw [h]; congr 1; omega
theorem chTo_same {o E : List Int} {t : Nat} (h : ¬ (1 ≤ t ∧ 0 ≤ Z o (t - 1) ∧ Z o t ≠ Z o (t - 1) ∧ (t : Int) < Z E (Z o (t - 1)).toNat)) : chTo o E (t + 1) = chTo o E t := by simp only [chTo]; rw [if_neg h]; omega
theorem chTo_more {o E : List Int} {t : Nat} (h : 1 ≤ t ∧ 0 ≤ Z o (t - 1) ∧ Z o t ≠ Z o (t - 1) ∧ (t : Int) < Z E (Z o (t - 1)).toNat) : chTo o E (t + 1) = chTo o E t + 1 := by simp only [chTo]; rw [if_pos h]

end Go.Proofs.Ytecoefjkobpbgaa


/- spec.BusyOk (ahead of the landing) -/
import Derived.Test.YtecoefjkobpbgaaK7
import Derived.Test.YtecoefjkobpbgaaK1
namespace Go.Proofs.Ytecoefjkobpbgaa
set_option linter.unusedVariables false
open Go.RowKit
attribute [local go_sem ↓] Go.wp_at_zero Go.wp_at_succ

theorem unitBusy_at {L : List (Int × Int)} {o : List Int} : ∀ n, unitBusy L o n = true → ∀ t, t < n → (decide (0 ≤ Z o t) == decide (0 < wk L t)) = true := by
  intro n
  induction n with
  | zero => intro _ t ht; omega
  | succ n ih =>
    intro h t ht
    simp only [unitBusy, Bool.and_eq_true] at h
    by_cases e : t = n
    · subst e; exact h.2
    · exact ih h.1 t (by omega)
theorem busyOk_bad {L : List (Int × Int)} {o : List Int} {t : Nat} (ht : t < o.length) (h : (decide (0 ≤ Z o t) == decide (0 < wk L t)) = false) : busyOk L o = false := by
  have : unitBusy L o o.length = false := by
    by_cases hu : unitBusy L o o.length = true
    · rw [unitBusy_at _ hu t ht] at h; cases h
    · simpa using hu
  simp [busyOk, this]
theorem busyOk_ord {L : List (Int × Int)} {o : List Int} (h : ordOk L o = false) : busyOk L o = false := by simp [busyOk, h]

end Go.Proofs.Ytecoefjkobpbgaa


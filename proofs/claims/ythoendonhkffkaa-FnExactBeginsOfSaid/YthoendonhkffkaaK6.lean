/- spec.OrderOk (ahead of the landing) -/
import Derived.Test.YthoendonhkffkaaK5
namespace Go.Proofs.Ythoendonhkffkaa
set_option linter.unusedVariables false
open Go.RowKit
attribute [local go_sem ↓] Go.wp_at_zero Go.wp_at_succ

theorem ordOk_bad {L : List (Int × Int)} {o : List Int} {t : Nat} (ht : t < o.length) (h : cOk L = true → unitOk L o t = false) : ordOk L o = false := by
  by_cases hc : cOk L = true
  · have h := h hc
    have : unitsOk L o o.length = false := by
      by_cases hu : unitsOk L o o.length = true
      · rw [unitsOk_at _ hu t ht] at h; cases h
      · simpa using hu
    simp [ordOk, this]
  · simp [ordOk, hc]
theorem ordOk_left {L : List (Int × Int)} {o lf : List Int} {k : Nat} (hk : k < L.length) (hz : 0 < Z lf k) (h : cOk L = true → lf = leftOf L o o.length) : ordOk L o = false := by
  by_cases hc : cOk L = true
  · have h := h hc
    have : noneLeft (leftOf L o o.length) L.length = false := by
      by_cases hu : noneLeft (leftOf L o o.length) L.length = true
      · have := noneLeft_at _ hu k hk; rw [← h] at this; omega
      · simpa using hu
    simp [ordOk, this]
  · simp [ordOk, hc]
theorem left_bd {L : List (Int × Int)} {o : List Int} {k : Nat} (hk : k < L.length) : ∀ t, Y L k - t ≤ Z (leftOf L o t) k ∧ Z (leftOf L o t) k ≤ Y L k := by
  intro t
  induction t with
  | zero => show Y L k - _ ≤ Z (needs L) k ∧ Z (needs L) k ≤ Y L k; rw [needs_Z hk]; omega
  | succ t ih =>
    show _ ≤ Z (stepL (leftOf L o t) (Z o t)) k ∧ Z (stepL (leftOf L o t) (Z o t)) k ≤ _
    unfold stepL
    split
    · by_cases hq : (Z o t).toNat < (leftOf L o t).length
      · rw [Z_set hq]
        split
        · rename_i e; subst e; omega
        · omega
      · rw [List.set_eq_of_length_le (by omega)]; omega
    · omega

end Go.Proofs.Ythoendonhkffkaa


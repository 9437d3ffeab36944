/- draws of customers and an order (ahead of the landing) -/
import Derived.Test.YtmimcgjobgfgfaaI3
namespace Go.Proofs.Ytmimcgjobgfgfaa
set_option linter.unusedVariables false
open Go.RowKit

theorem orderR_len (L : List (Int × Int)) (r : Int) : (orderR L r).length ≤ 132 := by
  unfold orderR
  split
  · rename_i h
    have hc : cOk L = true := by simp only [byOk, Bool.and_eq_true] at h; exact h.1
    have := lastLeave_bd hc
    rw [orderTo_len]; omega
  · simp


























end Go.Proofs.Ytmimcgjobgfgfaa


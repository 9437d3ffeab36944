/- impl.LeavesOf, spec.LeavesOf -/
import Derived.Test.YtpbmehodcllncaaS2
namespace Go.Proofs.Ytpbmehodcllncaa
set_option linter.unusedVariables false
open Go.RowKit
attribute [local go_sem ↓] Go.wp_at_zero Go.wp_at_succ

theorem leaves_waits (L : List (Int × Int)) : (leaves L).length = (waits L).length := by
  by_cases h : cOk L = true
  · rw [leaves_yes h, waits_yes h, leavesTo_len, waitsTo_len]
  · rw [leaves_no (by simpa using h), waits_no (by simpa using h)]

end Go.Proofs.Ytpbmehodcllncaa


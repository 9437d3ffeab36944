/- impl.WaitsOf, spec.WaitsOf -/
import Derived.Test.YtpbmehodcllncaaS1
import Derived.Test.YtpbmehodcllncaaO
namespace Go.Proofs.Ytpbmehodcllncaa
set_option linter.unusedVariables false
open Go.RowKit
attribute [local go_sem ↓] Go.wp_at_zero Go.wp_at_succ

theorem Z_waitsTo {L : List (Int × Int)} {n k : Nat} (h : k < n) : Z (waitsTo L n) k = waitAt L k := by simp [Z, waitsTo, h]
theorem Z_leavesTo {L : List (Int × Int)} {n k : Nat} (h : k < n) : Z (leavesTo L n) k = leaveAt L k := by simp [Z, leavesTo, h]
theorem Z_gapsTo {L : List (Int × Int)} {n k : Nat} (h : k < n - 1) : Z (gapsTo L n) k = X L (k + 1) - X L k := by simp [Z, gapsTo, h]

end Go.Proofs.Ytpbmehodcllncaa


/- impl.IdleUntil, spec.IdleUntil -/
import Derived.Test.YtpbmehodcllncaaS5
import Derived.RegionCalls
namespace Go.Proofs.Ytpbmehodcllncaa
set_option linter.unusedVariables false
open Go.RowKit
attribute [local go_sem ↓] Go.wp_at_zero Go.wp_at_succ

end Go.Proofs.Ytpbmehodcllncaa


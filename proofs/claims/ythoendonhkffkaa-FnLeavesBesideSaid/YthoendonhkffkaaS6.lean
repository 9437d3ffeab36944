/- impl.IdleUntil, spec.IdleUntil -/
import Derived.Test.YthoendonhkffkaaS5
import Derived.RegionCalls
namespace Go.Proofs.Ythoendonhkffkaa
set_option linter.unusedVariables false
open Go.RowKit
attribute [local go_sem ↓] Go.wp_at_zero Go.wp_at_succ

end Go.Proofs.Ythoendonhkffkaa


/- one step of impl.WaitsOf's closure -/
import Derived.Test.YtjjncpimelpfiaaS1
namespace Go.Proofs.Ytjjncpimelpfiaa
set_option linter.unusedVariables false
open Go.RowKit
attribute [local go_sem ↓] Go.wp_at_zero Go.wp_at_succ

end Go.Proofs.Ytjjncpimelpfiaa


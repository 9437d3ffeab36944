/- spec.SumOf, ThereAt, LeastSum, SpreadOf (ahead of the landing) -/
import Derived.Test.YtmimcgjobgfgfaaK10
namespace Go.Proofs.Ytmimcgjobgfgfaa
set_option linter.unusedVariables false
open Go.RowKit
attribute [local go_sem ↓] Go.wp_at_zero Go.wp_at_succ

end Go.Proofs.Ytmimcgjobgfgfaa


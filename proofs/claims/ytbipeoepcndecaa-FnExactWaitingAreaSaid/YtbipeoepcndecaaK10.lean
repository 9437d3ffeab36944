/- spec.TimesOf, SumOf, ThereAt, LeastSum, SpreadOf (ahead of the landing) -/
import Derived.Test.YtbipeoepcndecaaK7
import Derived.Test.YtbipeoepcndecaaM16
namespace Go.Proofs.Ytbipeoepcndecaa
set_option linter.unusedVariables false
open Go.RowKit
attribute [local go_sem ↓] Go.wp_at_zero Go.wp_at_succ

end Go.Proofs.Ytbipeoepcndecaa


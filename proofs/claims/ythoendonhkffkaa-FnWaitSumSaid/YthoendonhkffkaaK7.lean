/- spec.EndsOf (ahead of the landing) -/
import Derived.Test.YthoendonhkffkaaK6
namespace Go.Proofs.Ythoendonhkffkaa
set_option linter.unusedVariables false
open Go.RowKit
attribute [local go_sem ↓] Go.wp_at_zero Go.wp_at_succ

end Go.Proofs.Ythoendonhkffkaa


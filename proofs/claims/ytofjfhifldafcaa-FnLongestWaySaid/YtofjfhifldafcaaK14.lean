/- spec.SwappedAt (ahead of the landing) -/
import Derived.Test.YtofjfhifldafcaaK13
import Derived.Test.YtofjfhifldafcaaO2
import Derived.Test.YtofjfhifldafcaaG
namespace Go.Proofs.Ytofjfhifldafcaa
set_option linter.unusedVariables false
open Go.RowKit
attribute [local go_sem ↓] Go.wp_at_zero Go.wp_at_succ

def swapV (v : Value) (b : Bool) : Value := .tuple #[v, .bool b]

end Go.Proofs.Ytofjfhifldafcaa


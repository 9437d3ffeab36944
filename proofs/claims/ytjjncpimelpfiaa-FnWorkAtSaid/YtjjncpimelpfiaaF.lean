/- later, impl.LaterBy, spec.LaterBy, spec.LastLeave -/
import Derived.Test.YtjjncpimelpfiaaC
import Derived.Test.YtjjncpimelpfiaaO
import Derived.Test.YtjjncpimelpfiaaM4
namespace Go.Proofs.Ytjjncpimelpfiaa
set_option linter.unusedVariables false
open Go.RowKit
attribute [local go_sem ↓] Go.wp_at_zero Go.wp_at_succ

def laterV (v : Value) (b : Bool) : Value := .tuple #[v, .bool b]

end Go.Proofs.Ytjjncpimelpfiaa


/- impl.NeedOf, fold, spec.NeedOf · impl.comeUpTo, impl.ComeBy, spec.ComeBy · gapTo, impl.GapsOf, spec.GapsOf · later, impl.LaterBy, spec.LaterBy, spec.LastLeave -/
import Derived.Test.YtofjfhifldafcaaA
import Derived.Test.YtofjfhifldafcaaB
import Derived.Test.YtofjfhifldafcaaM
import Derived.Test.YtofjfhifldafcaaO
namespace Go.Proofs.Ytofjfhifldafcaa
set_option linter.unusedVariables false
open Go.RowKit

end Go.Proofs.Ytofjfhifldafcaa

namespace Go.Proofs.Ytofjfhifldafcaa
set_option linter.unusedVariables false
open Go.RowKit

end Go.Proofs.Ytofjfhifldafcaa

namespace Go.Proofs.Ytofjfhifldafcaa
set_option linter.unusedVariables false
open Go.RowKit
attribute [local go_sem ↓] Go.wp_at_zero Go.wp_at_succ

end Go.Proofs.Ytofjfhifldafcaa

namespace Go.Proofs.Ytofjfhifldafcaa
set_option linter.unusedVariables false
open Go.RowKit
attribute [local go_sem ↓] Go.wp_at_zero Go.wp_at_succ

def laterV (v : Value) (b : Bool) : Value := .tuple #[v, .bool b]

end Go.Proofs.Ytofjfhifldafcaa


/- impl.comeUpTo, impl.ComeBy, spec.ComeBy -/
import Derived.Test.YtkkglpohmeehlaaC
import Derived.Test.YtkkglpohmeehlaaM2
namespace Go.Proofs.Ytkkglpohmeehlaa
set_option linter.unusedVariables false
open Go.RowKit

end Go.Proofs.Ytkkglpohmeehlaa


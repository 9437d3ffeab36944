/- walks of the laws of chapter 1, first part -/
import Derived.Test.YtkkglpohmeehlaaI
import Derived.Test.YtkkglpohmeehlaaH
import Derived.Test.YtkkglpohmeehlaaD
namespace Go.Proofs.Ytkkglpohmeehlaa
set_option linter.unusedVariables false
open Go.RowKit

end Go.Proofs.Ytkkglpohmeehlaa


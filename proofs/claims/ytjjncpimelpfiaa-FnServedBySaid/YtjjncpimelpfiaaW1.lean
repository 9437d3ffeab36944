/- walks of the laws of chapter 1, first part -/
import Derived.Test.YtjjncpimelpfiaaI
import Derived.Test.YtjjncpimelpfiaaH
import Derived.Test.YtjjncpimelpfiaaD
namespace Go.Proofs.Ytjjncpimelpfiaa
set_option linter.unusedVariables false
open Go.RowKit

end Go.Proofs.Ytjjncpimelpfiaa


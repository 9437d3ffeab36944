/- walks of the laws of chapter 1, first part -/
import Derived.Test.YtgcoemfnjdbhaaaI
import Derived.Test.YtgcoemfnjdbhaaaH
import Derived.Test.YtgcoemfnjdbhaaaC
namespace Go.Proofs.Ytgcoemfnjdbhaaa
set_option linter.unusedVariables false
open Go.RowKit

end Go.Proofs.Ytgcoemfnjdbhaaa


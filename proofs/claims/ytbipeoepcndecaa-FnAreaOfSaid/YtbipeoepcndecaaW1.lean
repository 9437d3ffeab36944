/- walks of the laws of chapter 1, first part -/
import Derived.Test.YtbipeoepcndecaaI
import Derived.Test.YtbipeoepcndecaaH
import Derived.Test.YtbipeoepcndecaaC
namespace Go.Proofs.Ytbipeoepcndecaa
set_option linter.unusedVariables false
open Go.RowKit

end Go.Proofs.Ytbipeoepcndecaa


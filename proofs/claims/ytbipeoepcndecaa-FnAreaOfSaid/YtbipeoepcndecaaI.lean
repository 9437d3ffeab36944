/- draws of lists · draws of a list and a number -/
import Derived.Test.YtbipeoepcndecaaG2
namespace Go.Proofs.Ytbipeoepcndecaa
set_option linter.unusedVariables false
open Go.RowKit












end Go.Proofs.Ytbipeoepcndecaa

namespace Go.Proofs.Ytbipeoepcndecaa
set_option linter.unusedVariables false
open Go.RowKit











end Go.Proofs.Ytbipeoepcndecaa


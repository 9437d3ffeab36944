/- draws of lists · draws of a list and a number -/
import Derived.Test.YtecoefjkobpbgaaG2
namespace Go.Proofs.Ytecoefjkobpbgaa
set_option linter.unusedVariables false
open Go.RowKit












end Go.Proofs.Ytecoefjkobpbgaa

namespace Go.Proofs.Ytecoefjkobpbgaa
set_option linter.unusedVariables false
open Go.RowKit











end Go.Proofs.Ytecoefjkobpbgaa


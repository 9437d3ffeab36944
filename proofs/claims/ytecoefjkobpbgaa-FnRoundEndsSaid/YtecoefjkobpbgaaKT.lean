/- chapter 11's functions of the program -/
import Derived.Test.YtecoefjkobpbgaaU22
import Derived.Test.YtecoefjkobpbgaaU23
import Derived.Test.YtecoefjkobpbgaaU25
namespace Go.Proofs.Ytecoefjkobpbgaa
set_option linter.unusedVariables false

end Go.Proofs.Ytecoefjkobpbgaa


/- Slices of tasks that a call owns (as those of customers) -/
import Derived.Test.YtofjfhifldafcaaO
namespace Go.Proofs.Ytofjfhifldafcaa
set_option linter.unusedVariables false
open Go.RowKit

end Go.Proofs.Ytofjfhifldafcaa


/- walks of the laws of chapter 1, first part -/
import Derived.Test.YtndkeaikafmhcaaI
import Derived.Test.YtndkeaikafmhcaaH
import Derived.Test.YtndkeaikafmhcaaC
namespace Go.Proofs.Ytndkeaikafmhcaa
set_option linter.unusedVariables false
open Go.RowKit

end Go.Proofs.Ytndkeaikafmhcaa


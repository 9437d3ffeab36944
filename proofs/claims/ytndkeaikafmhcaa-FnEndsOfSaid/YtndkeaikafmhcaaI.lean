/- draws of lists · draws of a list and a number -/
import Derived.Test.YtndkeaikafmhcaaG2
namespace Go.Proofs.Ytndkeaikafmhcaa
set_option linter.unusedVariables false
open Go.RowKit












end Go.Proofs.Ytndkeaikafmhcaa

namespace Go.Proofs.Ytndkeaikafmhcaa
set_option linter.unusedVariables false
open Go.RowKit











end Go.Proofs.Ytndkeaikafmhcaa


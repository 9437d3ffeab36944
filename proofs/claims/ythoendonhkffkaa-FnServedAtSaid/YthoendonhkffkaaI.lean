/- draws of lists · draws of a list and a number -/
import Derived.Test.YthoendonhkffkaaG2
namespace Go.Proofs.Ythoendonhkffkaa
set_option linter.unusedVariables false
open Go.RowKit












end Go.Proofs.Ythoendonhkffkaa

namespace Go.Proofs.Ythoendonhkffkaa
set_option linter.unusedVariables false
open Go.RowKit











end Go.Proofs.Ythoendonhkffkaa


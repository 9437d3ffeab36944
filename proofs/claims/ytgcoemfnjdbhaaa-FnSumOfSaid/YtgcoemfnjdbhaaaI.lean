/- draws of lists · draws of a list and a number -/
import Derived.Test.YtgcoemfnjdbhaaaG2
namespace Go.Proofs.Ytgcoemfnjdbhaaa
set_option linter.unusedVariables false
open Go.RowKit












end Go.Proofs.Ytgcoemfnjdbhaaa

namespace Go.Proofs.Ytgcoemfnjdbhaaa
set_option linter.unusedVariables false
open Go.RowKit











end Go.Proofs.Ytgcoemfnjdbhaaa


/- Chapter 5's functions of the program (U9): TimesOf, SumOf, ThereAt, LeastSum, SpreadOf. -/
import Derived.Test.YtgcoemfnjdbhaaaK11
import Derived.Test.YtgcoemfnjdbhaaaV1
import Derived.Test.YtgcoemfnjdbhaaaR2
import Derived.Test.YtgcoemfnjdbhaaaU9
namespace Go.Proofs.Ytgcoemfnjdbhaaa
set_option linter.unusedVariables false

end Go.Proofs.Ytgcoemfnjdbhaaa


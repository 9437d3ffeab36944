/- Chapter 5's functions of the program (U9): TimesOf, SumOf, ThereAt, LeastSum, SpreadOf. -/
import Derived.Test.YtmimcgjobgfgfaaK11
import Derived.Test.YtmimcgjobgfgfaaV1
import Derived.Test.YtmimcgjobgfgfaaR2
import Derived.Test.YtmimcgjobgfgfaaU9
namespace Go.Proofs.Ytmimcgjobgfgfaa
set_option linter.unusedVariables false

end Go.Proofs.Ytmimcgjobgfgfaa


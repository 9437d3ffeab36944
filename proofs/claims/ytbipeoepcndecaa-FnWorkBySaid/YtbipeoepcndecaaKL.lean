/- Chapter 5's functions of the program (U9): TimesOf, SumOf, ThereAt, LeastSum, SpreadOf. -/
import Derived.Test.YtbipeoepcndecaaK11
import Derived.Test.YtbipeoepcndecaaV1
import Derived.Test.YtbipeoepcndecaaR2
import Derived.Test.YtbipeoepcndecaaU9
namespace Go.Proofs.Ytbipeoepcndecaa
set_option linter.unusedVariables false

end Go.Proofs.Ytbipeoepcndecaa


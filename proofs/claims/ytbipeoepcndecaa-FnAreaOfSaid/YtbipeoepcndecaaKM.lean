/- Chapter 6's functions of the program (U10): AreaOf, WaitingArea, WorkArea, WorkBy. -/
import Derived.Test.YtbipeoepcndecaaK12
import Derived.Test.YtbipeoepcndecaaU10
import Derived.Test.YtbipeoepcndecaaKL
namespace Go.Proofs.Ytbipeoepcndecaa
set_option linter.unusedVariables false

end Go.Proofs.Ytbipeoepcndecaa


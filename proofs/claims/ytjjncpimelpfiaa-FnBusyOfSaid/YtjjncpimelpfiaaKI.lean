/- The contracts of chapter 3's functions of the program: XN2 (WorkAt), XN3 (ServedBy), XN6 (BusyOf), XN7 (ComeIn). -/
import Derived.Test.YtjjncpimelpfiaaN7
import Derived.Test.YtjjncpimelpfiaaK3
import Derived.Test.YtjjncpimelpfiaaV1
namespace Go.Proofs.Ytjjncpimelpfiaa
set_option linter.unusedVariables false

end Go.Proofs.Ytjjncpimelpfiaa


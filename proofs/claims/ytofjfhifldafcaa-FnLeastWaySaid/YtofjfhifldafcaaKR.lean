/- The contracts of chapter 9's functions of the program: U16 (BothOk), U17 (LeavesBoth, LongestWay), U18 (BackOf), U19 (ByPairs), U20 (InOrder, LeastWay) -/
import Derived.Test.YtofjfhifldafcaaU18
import Derived.Test.YtofjfhifldafcaaU19
import Derived.Test.YtofjfhifldafcaaU20
namespace Go.Proofs.Ytofjfhifldafcaa
set_option linter.unusedVariables false
open Go.RowKit

theorem c_iEachOnce9 (o : List Int) (O : Option Addr) (d : Nat) (n : Int) (w : World) (hO : Is w w.heap.size O o) (ho : o.length ≤ 140737488351232) :
    Calls Try.prog 39 #[.slice O o.length d, .int .i64 n] w fun e w' => e = .returned (.bool (eachV o n)) ∧ Below w.heap.size w w' := c_iEachOnce o O d n w hO ho

end Go.Proofs.Ytofjfhifldafcaa


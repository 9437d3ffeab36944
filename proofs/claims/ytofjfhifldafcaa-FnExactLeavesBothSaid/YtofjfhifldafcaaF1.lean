/- What the frames of the exact laws share: an argument that is a slice of the laws' customers. -/
import Derived.Test.YtofjfhifldafcaaO
import Derived.ProofKit
import Derived.OpenShut
import Derived.Deep.SlicePairs
namespace Go.Proofs.Ytofjfhifldafcaa
set_option linter.unusedVariables false
open Go.RowKit Go.ChangeShapes Go.WideShapes Go.ChangeAt Go.Deep

end Go.Proofs.Ytofjfhifldafcaa


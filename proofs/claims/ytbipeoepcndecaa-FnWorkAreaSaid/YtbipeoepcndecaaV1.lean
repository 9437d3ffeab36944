/- walks of the exact laws of chapter 1 -/
import Derived.Test.YtbipeoepcndecaaX
import Derived.Test.YtbipeoepcndecaaO
import Derived.Test.YtbipeoepcndecaaC
import Derived.Test.YtbipeoepcndecaaH
namespace Go.Proofs.Ytbipeoepcndecaa
set_option linter.unusedVariables false
open Go.RowKit


theorem comeV_form (L : List (Int × Int)) (t : Int) : ∃ (a b : Int) (q : Bool), comeV L t = .tuple #[.int .i64 a, .int .i64 b, .bool q] := by
  unfold comeV; split
  · exact ⟨_, _, _, rfl⟩
  · exact ⟨_, _, _, rfl⟩








end Go.Proofs.Ytbipeoepcndecaa


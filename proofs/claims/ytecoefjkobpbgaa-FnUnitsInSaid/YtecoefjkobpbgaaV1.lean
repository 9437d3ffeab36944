/- walks of the exact laws of chapter 1 -/
import Derived.Test.YtecoefjkobpbgaaX
import Derived.Test.YtecoefjkobpbgaaO
import Derived.Test.YtecoefjkobpbgaaC
import Derived.Test.YtecoefjkobpbgaaH
namespace Go.Proofs.Ytecoefjkobpbgaa
set_option linter.unusedVariables false
open Go.RowKit


theorem comeV_form (L : List (Int × Int)) (t : Int) : ∃ (a b : Int) (q : Bool), comeV L t = .tuple #[.int .i64 a, .int .i64 b, .bool q] := by
  unfold comeV; split
  · exact ⟨_, _, _, rfl⟩
  · exact ⟨_, _, _, rfl⟩








end Go.Proofs.Ytecoefjkobpbgaa


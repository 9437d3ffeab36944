/- walks of the exact laws of chapter 1 -/
import Derived.Test.YtmimcgjobgfgfaaX
import Derived.Test.YtmimcgjobgfgfaaO
import Derived.Test.YtmimcgjobgfgfaaC
import Derived.Test.YtmimcgjobgfgfaaH
namespace Go.Proofs.Ytmimcgjobgfgfaa
set_option linter.unusedVariables false
open Go.RowKit


theorem comeV_form (L : List (Int × Int)) (t : Int) : ∃ (a b : Int) (q : Bool), comeV L t = .tuple #[.int .i64 a, .int .i64 b, .bool q] := by
  unfold comeV; split
  · exact ⟨_, _, _, rfl⟩
  · exact ⟨_, _, _, rfl⟩








end Go.Proofs.Ytmimcgjobgfgfaa


/- walks of the exact laws of chapter 1 -/
import Derived.Test.YtgcoemfnjdbhaaaX
import Derived.Test.YtgcoemfnjdbhaaaO
import Derived.Test.YtgcoemfnjdbhaaaC
import Derived.Test.YtgcoemfnjdbhaaaH
namespace Go.Proofs.Ytgcoemfnjdbhaaa
set_option linter.unusedVariables false
open Go.RowKit


theorem comeV_form (L : List (Int × Int)) (t : Int) : ∃ (a b : Int) (q : Bool), comeV L t = .tuple #[.int .i64 a, .int .i64 b, .bool q] := by
  unfold comeV; split
  · exact ⟨_, _, _, rfl⟩
  · exact ⟨_, _, _, rfl⟩








end Go.Proofs.Ytgcoemfnjdbhaaa


/- Plain mathematics of gaps, later customers, the last leave. -/
import Derived.Test.YtjjncpimelpfiaaM2
namespace Go.Proofs.Ytjjncpimelpfiaa
set_option linter.unusedVariables false
open Go.RowKit
def gapsTo (L : List (Int × Int)) (k : Nat) : List Int := (List.range (k - 1)).map fun i => X L (i + 1) - X L i
def gaps (L : List (Int × Int)) : List Int := if cOk L = true then gapsTo L L.length else []
theorem gapsTo_len (L : List (Int × Int)) (k : Nat) : (gapsTo L k).length = k - 1 := by simp [gapsTo]
theorem gapsTo_succ (L : List (Int × Int)) (k : Nat) (h : 1 ≤ k) : gapsTo L (k + 1) = gapsTo L k ++ [X L k - X L (k - 1)] := by
  obtain ⟨j, rfl⟩ : ∃ j, k = j + 1 := ⟨k - 1, by omega⟩
  simp [gapsTo, List.range_succ]
theorem gaps_yes {L : List (Int × Int)} (h : cOk L = true) : gaps L = gapsTo L L.length := if_pos h
theorem gaps_no {L : List (Int × Int)} (h : cOk L = false) : gaps L = [] := by simp [gaps, h]

end Go.Proofs.Ytjjncpimelpfiaa


/- impl.EndsOf -/
import Derived.Test.YthoendonhkffkaaU1
import Derived.Test.YthoendonhkffkaaO2
import Derived.OwnWalk
namespace Go.Proofs.Ythoendonhkffkaa
set_option linter.unusedVariables false
open Go.RowKit
attribute [local go_sem ↓] Go.wp_at_zero Go.wp_at_succ

def endsAt (L : List (Int × Int)) (o : List Int) (t : Nat) : List Int := (List.range L.length).map fun k => endTo o k t
theorem endsAt_len (L : List (Int × Int)) (o : List Int) (t : Nat) : (endsAt L o t).length = L.length := by simp [endsAt]
theorem endsAt_zero (L : List (Int × Int)) (o : List Int) : endsAt L o 0 = List.replicate L.length 0 := by
  refine List.ext_getElem (by simp [endsAt]) fun k h1 h2 => ?_
  simp [endsAt, endTo]
theorem endsAt_set {L : List (Int × Int)} {o : List Int} {t p : Nat} (e : Z o t = p) : endsAt L o (t + 1) = (endsAt L o t).set p ((t : Int) + 1) := by
  refine List.ext_getElem (by simp [endsAt]) fun k h1 h2 => ?_
  rw [List.getElem_set]
  simp only [endsAt, List.getElem_map, List.getElem_range, endTo, e]
  by_cases h : p = k
  · rw [if_pos h, if_pos (by omega)]
  · rw [if_neg h, if_neg (by omega)]
theorem endsAt_idle {L : List (Int × Int)} {o : List Int} {t : Nat} (e : Z o t = -1) : endsAt L o (t + 1) = endsAt L o t := by
  refine List.ext_getElem (by simp [endsAt]) fun k h1 h2 => ?_
  simp only [endsAt, List.getElem_map, List.getElem_range, endTo, e]
  rw [if_neg (by omega)]


end Go.Proofs.Ythoendonhkffkaa


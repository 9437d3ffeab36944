/- the exact laws' copies of rows of numbers: toIntS -/
import Derived.Test.YthoendonhkffkaaX
import Derived.Test.YthoendonhkffkaaH
import Derived.Test.YthoendonhkffkaaO
import Derived.Test.YthoendonhkffkaaM10
namespace Go.Proofs.Ythoendonhkffkaa
set_option linter.unusedVariables false
open Go.RowKit
attribute [local go_sem ↓] Go.wp_at_zero Go.wp_at_succ

def fillI (xs : List Int) (k : Nat) : List Int := xs.take k ++ List.replicate (xs.length - k) 0
theorem fillI_len {xs : List Int} {k : Nat} (h : k ≤ xs.length) : (fillI xs k).length = xs.length := by simp [fillI]; omega
theorem fillI_succ {xs : List Int} {k : Nat} (h : k < xs.length) : (fillI xs k).set k (Z xs k) = fillI xs (k + 1) := by
  unfold fillI
  have e : xs.length - k = (xs.length - (k + 1)) + 1 := by omega
  rw [e, List.replicate_succ, List.set_append_right _ _ (by simp; omega)]
  have e2 : k - (xs.take k).length = 0 := by simp; omega
  have e3 : xs.take (k + 1) = xs.take k ++ [xs[k]] := List.take_succ_eq_append_getElem h
  have e4 : Z xs k = xs[k] := by simp [Z, h]
  rw [e2, List.set_cons_zero, e3, e4, List.append_assoc]
  rfl
theorem zerosI (n : Nat) : (madeCells (Value.int .i64 0).cells (n * 1)).toList = List.replicate n (Value.int .i64 0) := by
  apply List.ext_getElem?
  intro i
  by_cases h : i < n
  · simp [madeCells, Value.cells, h, Nat.mod_one]
  · rw [List.getElem?_eq_none (by simp [madeCells]; omega), List.getElem?_eq_none (by simp; omega)]
theorem fillI_all (xs : List Int) : fillI xs xs.length = xs := by simp [fillI]

end Go.Proofs.Ythoendonhkffkaa


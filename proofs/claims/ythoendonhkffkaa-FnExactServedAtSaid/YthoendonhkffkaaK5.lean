/- spec.OrderBy (ahead of the landing) -/
import Derived.Test.YthoendonhkffkaaK4
import Derived.Test.YthoendonhkffkaaC
namespace Go.Proofs.Ythoendonhkffkaa
set_option linter.unusedVariables false
open Go.RowKit
attribute [local go_sem ↓] Go.wp_at_zero Go.wp_at_succ

def needsTo (L : List (Int × Int)) (k : Nat) : List Int := (needs L).take k
theorem needsTo_len {L : List (Int × Int)} {k : Nat} (h : k ≤ L.length) : (needsTo L k).length = k := by rw [needsTo, List.length_take, needs_len]; omega
theorem needs_take_succ {L : List (Int × Int)} {k : Nat} (h : k < L.length) : needsTo L (k + 1) = needsTo L k ++ [Y L k] := by
  unfold needsTo
  rw [List.take_succ_eq_append_getElem (by rw [needs_len]; exact h)]
  congr 2
  simp [needs, Y, h]
/-- a list that lies between lo and hi is as it was -/
theorem IO.mid {w w' : World} {base lo hi : Nat} {v : Value} {xs : List Int} (h : IO w base v xs) (hm : Mid lo hi w w') (hr : ∀ r, v.ownBlock = some r → lo < r ∧ r < hi) : IO w' base v xs := by
  refine ⟨h.1, ?_⟩
  rcases h.2 with h2 | ⟨g, cap, cur, rfl, hgb, hh, rest⟩
  · exact .inl h2
  · have := hr g (by simp [Value.ownBlock])
    exact .inr ⟨g, cap, cur, rfl, hgb, by rw [hm g this.1 this.2]; exact hh, rest⟩
def byOk (L : List (Int × Int)) (r : Int) : Bool := cOk L && decide (0 ≤ r ∧ r ≤ 3)
def orderR (L : List (Int × Int)) (r : Int) : List Int := if byOk L r = true then orderTo L r (lastLeave L).toNat else []
theorem orderR_yes {L : List (Int × Int)} {r : Int} (h : byOk L r = true) : orderR L r = orderTo L r (lastLeave L).toNat := if_pos h
theorem orderR_no {L : List (Int × Int)} {r : Int} (h : byOk L r = false) : orderR L r = [] := by simp [orderR, h]

end Go.Proofs.Ythoendonhkffkaa


/- walks of the laws of chapter 1, second part: FnNeedOf, FnComeBy -/
import Derived.Test.YtjjncpimelpfiaaW1
import Derived.Test.YtjjncpimelpfiaaI2
import Derived.Test.YtjjncpimelpfiaaV1
import Derived.Test.YtjjncpimelpfiaaQ
namespace Go.Proofs.Ytjjncpimelpfiaa
set_option linter.unusedVariables false
open Go.RowKit
attribute [local go_sem ↓] Go.wp_at_zero Go.wp_at_succ

theorem needOf_no {L : List (Int × Int)} (h : cOk L = false) : needOf L = -1 := by simp [needOf, h]
theorem needOf_yes {L : List (Int × Int)} (h : cOk L = true) : needOf L = sumTo L L.length := by simp [needOf, h]
theorem needOf_bd {L : List (Int × Int)} (h : cOk L = true) : 0 ≤ needOf L ∧ needOf L ≤ 72 := by
  have := sumTo_bd h L.length (Nat.le_refl _)
  have := cOk_len h
  rw [needOf_yes h]; omega

theorem cnt_mono {L : List (Int × Int)} {t u : Int} (h : t ≤ u) : cnt L t ≤ cnt L u := by
  induction L with
  | nil => simp [cnt]
  | cons c L ih =>
    by_cases e : c.1 ≤ t
    · have e2 : c.1 ≤ u := by omega
      have h1 : cnt (c :: L) t = cnt L t + 1 := by simp [cnt, e]
      have h2 : cnt (c :: L) u = cnt L u + 1 := by simp [cnt, e2]
      omega
    · have h1 : cnt (c :: L) t = 0 := by simp [cnt, e]
      omega
theorem cnt_60 {L : List (Int × Int)} (h : cOk L = true) : cnt L 60 = L.length :=
  cnt_of (Nat.le_refl _) (fun j hj => (cOk_bd h hj).2.1) (fun h => absurd h (Nat.lt_irrefl _))
theorem sumTo_mono {L : List (Int × Int)} (h : cOk L = true) {i j : Nat} (hij : i ≤ j) (hj : j ≤ L.length) : sumTo L i ≤ sumTo L j := by
  induction j with
  | zero => obtain rfl : i = 0 := by omega
            exact Int.le_refl _
  | succ j ih =>
    by_cases e : i = j + 1
    · subst e; exact Int.le_refl _
    · have := ih (by omega) (by omega)
      have := cOk_bd h (k := j) (by omega)
      simp only [sumTo]; omega
theorem comeOk_parts {L : List (Int × Int)} {t : Int} (h : comeOk L t = true) : cOk L = true ∧ 0 ≤ t ∧ t ≤ 1000 := by
  simp only [comeOk, Bool.and_eq_true, decide_eq_true_eq] at h; exact h
theorem comeV_next {L : List (Int × Int)} {t : Int} (h : comeOk L t = true) : ∃ (a b : Int) (q : Bool), comeV L (t + 1) = .tuple #[.int .i64 a, .int .i64 b, .bool q] ∧ (q = true → (cnt L t : Int) ≤ a ∧ sumTo L (cnt L t) ≤ b) := by
  obtain ⟨h1, h2, h3⟩ := comeOk_parts h
  by_cases e : comeOk L (t + 1) = true
  · exact ⟨_, _, _, comeV_yes e, fun _ => ⟨by have := cnt_mono (L := L) (show t ≤ t + 1 by omega); omega, sumTo_mono h1 (cnt_mono (by omega)) (cnt_le _ _)⟩⟩
  · exact ⟨_, _, _, comeV_no e, fun h => by cases h⟩

end Go.Proofs.Ytjjncpimelpfiaa


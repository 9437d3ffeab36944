/- spec.DeedText (ahead of the landing; made by wip/gen/k29.py) -/
import Derived.Test.YtpbmehodcllncaaK28
namespace Go.Proofs.Ytpbmehodcllncaa
set_option linter.unusedVariables false
open Go.RowKit
attribute [local go_sem ↓] Go.wp_at_zero Go.wp_at_succ

theorem deedL_come {a b : Int} (ha : 0 ≤ a ∧ a ≤ 99) (hb : 0 ≤ b ∧ b ≤ 99) : deedL ⟨0, a, b⟩ = wCome ++ [32] ++ numL a.toNat ++ [32] ++ numL b.toNat := by rw [deedL, if_pos ⟨rfl, ha, hb⟩]
theorem deedL_none {k a b : Int} (h0 : ¬ (k = 0 ∧ (0 ≤ a ∧ a ≤ 99) ∧ (0 ≤ b ∧ b ≤ 99))) (h2 : ¬ (k = 2 ∧ (0 ≤ a ∧ a ≤ 99) ∧ b = 0)) (h3 : ¬ (k = 3 ∧ (0 ≤ a ∧ a ≤ 99) ∧ b = 0))
    (h1 : ¬ (k = 1 ∧ a = 0 ∧ b = 0)) (h4 : ¬ (k = 4 ∧ a = 0 ∧ b = 0)) : deedL ⟨k, a, b⟩ = [] := by
  rw [deedL, if_neg h0, if_neg h2, if_neg h3, if_neg (by simpa using h1), if_neg (by simpa using h4)]
theorem deedL_need {a : Int} (ha : 0 ≤ a ∧ a ≤ 99) : deedL ⟨2, a, 0⟩ = wNeed ++ [32] ++ numL a.toNat := by rw [deedL, if_neg (by simp), if_pos ⟨rfl, ha, rfl⟩]
theorem deedL_later {a : Int} (ha : 0 ≤ a ∧ a ≤ 99) : deedL ⟨3, a, 0⟩ = wLater ++ [32] ++ numL a.toNat := by rw [deedL, if_neg (by simp), if_neg (by simp), if_pos ⟨rfl, ha, rfl⟩]
theorem num_size {n : Nat} (h : n ≤ 99) : (bs (numL n)).size ≤ 2 := by rw [bs_size]; exact numL_len 1 n (by omega)

end Go.Proofs.Ytpbmehodcllncaa


/- impl.LastLeave -/
import Derived.Test.YtmimcgjobgfgfaaR
namespace Go.Proofs.Ytmimcgjobgfgfaa
set_option linter.unusedVariables false
open Go.RowKit Go.Shelf
attribute [local go_sem] Oper.semAt_some

/-- the pair (the greatest number, what is needed) behind the places in pre -/
def foldB (L : List (Int × Int)) (pre : List Nat) : Int × Int := pre.foldl (fun s x => (max s.1 (X L x + (s.2 + Y L x)), s.2 + Y L x)) (0, 0)
theorem foldB_snoc (L : List (Int × Int)) (pre : List Nat) (x : Nat) : foldB L (pre ++ [x]) = (max (foldB L pre).1 (X L x + ((foldB L pre).2 + Y L x)), (foldB L pre).2 + Y L x) := by simp [foldB]
theorem foldB_bd {L : List (Int × Int)} (h : cOk L = true) : ∀ (pre : List Nat), (∀ x ∈ pre, x < L.length) → 0 ≤ (foldB L pre).1 ∧ (foldB L pre).1 ≤ 60 + 9 * pre.length ∧ 0 ≤ (foldB L pre).2 ∧ (foldB L pre).2 ≤ 9 * pre.length := by
  have key : ∀ n, ∀ pre : List Nat, pre.length = n → (∀ x ∈ pre, x < L.length) → 0 ≤ (foldB L pre).1 ∧ (foldB L pre).1 ≤ 60 + 9 * pre.length ∧ 0 ≤ (foldB L pre).2 ∧ (foldB L pre).2 ≤ 9 * pre.length := by
    intro n
    induction n with
    | zero =>
      intro pre hp _
      rw [List.eq_nil_of_length_eq_zero hp]
      simp [foldB]
    | succ n ih =>
      intro pre hp hx
      rcases List.eq_nil_or_concat pre with rfl | ⟨pre', x, rfl⟩
      · simp at hp
      · rw [List.concat_eq_append] at hp hx ⊢
        have i := ih pre' (by simpa using hp) (fun y hy => hx y (by simp [hy]))
        have b := cOk_bd h (hx x (by simp))
        rw [foldB_snoc]
        simp only [List.length_append, List.length_cons, List.length_nil]
        omega
  exact fun pre => key _ pre rfl
theorem foldB_down {L : List (Int × Int)} : ∀ k, k ≤ L.length → foldB L (downTo L.length k) = (bestB L k, sumB L k) := by
  intro k
  induction k with
  | zero => intro _; rfl
  | succ k ih => intro hk; rw [downTo_succ, foldB_snoc, ih (by omega)]; rfl

end Go.Proofs.Ytmimcgjobgfgfaa


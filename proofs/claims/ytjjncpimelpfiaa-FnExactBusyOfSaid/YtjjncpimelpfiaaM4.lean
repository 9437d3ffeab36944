/- Plain mathematics: all later, the last leave. -/
import Derived.Test.YtjjncpimelpfiaaM3
namespace Go.Proofs.Ytjjncpimelpfiaa
set_option linter.unusedVariables false
open Go.RowKit

theorem X_ext {L L' : List (Int × Int)} (hl : L.length = L'.length) (h : ∀ k, k < L.length → X L k = X L' k ∧ Y L k = Y L' k) : L = L' := by
  apply List.ext_getElem hl
  intro k h1 h2
  have := h k h1
  simp [X, Y, h1, h2] at this
  exact Prod.ext this.1 this.2
theorem XY_eta (L : List (Int × Int)) (k : Nat) (h : k < L.length) : L[k] = (X L k, Y L k) := by simp [X, Y, h]
theorem take_succ_XY {L : List (Int × Int)} {k : Nat} (h : k < L.length) : L.take (k + 1) = L.take k ++ [(X L k, Y L k)] := by
  rw [List.take_succ_eq_append_getElem h, XY_eta L k h]

def laterL (L : List (Int × Int)) (t : Int) : List (Int × Int) := L.map fun c => (c.1 + t, c.2)
def laterW (L : List (Int × Int)) (t : Int) : List (Int × Int) := L.map fun c => (IntKind.i64.wrap (c.1 + t), c.2)
theorem laterL_len (L : List (Int × Int)) (t : Int) : (laterL L t).length = L.length := by simp [laterL]
theorem laterW_len (L : List (Int × Int)) (t : Int) : (laterW L t).length = L.length := by simp [laterW]
theorem laterL_X {L : List (Int × Int)} {t : Int} {k : Nat} (h : k < L.length) : X (laterL L t) k = X L k + t := by simp [X, laterL, h]
theorem laterL_Y {L : List (Int × Int)} {t : Int} {k : Nat} (h : k < L.length) : Y (laterL L t) k = Y L k := by simp [Y, laterL, h]
theorem laterW_X {L : List (Int × Int)} {t : Int} {k : Nat} (h : k < L.length) : X (laterW L t) k = IntKind.i64.wrap (X L k + t) := by simp [X, laterW, h]
theorem laterW_Y {L : List (Int × Int)} {t : Int} {k : Nat} (h : k < L.length) : Y (laterW L t) k = Y L k := by simp [Y, laterW, h]
theorem laterW_eq {L : List (Int × Int)} {t : Int} (h : cOk L = true) (ht : 0 ≤ t ∧ t ≤ 60) : laterW L t = laterL L t := by
  refine X_ext (by rw [laterW_len, laterL_len]) fun k hk => ?_
  rw [laterW_len] at hk
  rw [laterW_X hk, laterL_X hk, laterW_Y hk, laterL_Y hk]
  have := cOk_bd h hk
  exact ⟨IntWalk.i64_in _ (by omega), rfl⟩
def laterTo (L : List (Int × Int)) (t : Int) (k : Nat) : List (Int × Int) := (laterL L t).take k
theorem laterTo_len {L : List (Int × Int)} {t : Int} {k : Nat} (h : k ≤ L.length) : (laterTo L t k).length = k := by rw [laterTo, List.length_take, laterL_len]; omega
theorem laterTo_succ {L : List (Int × Int)} {t : Int} {k : Nat} (h : k < L.length) : laterTo L t (k + 1) = laterTo L t k ++ [(X L k + t, Y L k)] := by
  rw [laterTo, take_succ_XY (by rw [laterL_len]; exact h), laterL_X h, laterL_Y h]; rfl
theorem laterTo_all (L : List (Int × Int)) (t : Int) : laterTo L t L.length = laterL L t := List.take_of_length_le (by rw [laterL_len]; omega)
def laterWTo (L : List (Int × Int)) (t : Int) (k : Nat) : List (Int × Int) := (laterW L t).take k
theorem laterWTo_len {L : List (Int × Int)} {t : Int} {k : Nat} (h : k ≤ L.length) : (laterWTo L t k).length = k := by rw [laterWTo, List.length_take, laterW_len]; omega
theorem laterWTo_succ {L : List (Int × Int)} {t : Int} {k : Nat} (h : k < L.length) : laterWTo L t (k + 1) = laterWTo L t k ++ [(IntKind.i64.wrap (X L k + t), Y L k)] := by
  rw [laterWTo, take_succ_XY (by rw [laterW_len]; exact h), laterW_X h, laterW_Y h]; rfl
theorem laterWTo_all (L : List (Int × Int)) (t : Int) : laterWTo L t L.length = laterW L t := List.take_of_length_le (by rw [laterW_len]; omega)
def laterOk (L : List (Int × Int)) (t : Int) : Bool := cOk L && decide (0 ≤ t ∧ t ≤ 60) && cOk (laterL L t)
def laterR (L : List (Int × Int)) (t : Int) : List (Int × Int) := if laterOk L t = true then laterL L t else []
theorem laterR_yes {L : List (Int × Int)} {t : Int} (h : laterOk L t = true) : laterR L t = laterL L t := if_pos h
theorem laterR_no {L : List (Int × Int)} {t : Int} (h : laterOk L t = false) : laterR L t = [] := by simp [laterR, h]

/-- what the last j need; the greatest number of the last j -/
def sumB (L : List (Int × Int)) : Nat → Int
  | 0 => 0
  | j + 1 => sumB L j + Y L (L.length - 1 - j)
def bestB (L : List (Int × Int)) : Nat → Int
  | 0 => 0
  | j + 1 => max (bestB L j) (X L (L.length - 1 - j) + sumB L (j + 1))
def lastLeave (L : List (Int × Int)) : Int := if cOk L = true then bestB L L.length else -1
theorem lastLeave_yes {L : List (Int × Int)} (h : cOk L = true) : lastLeave L = bestB L L.length := if_pos h
theorem lastLeave_no {L : List (Int × Int)} (h : cOk L = false) : lastLeave L = -1 := by simp [lastLeave, h]
theorem sumB_bd {L : List (Int × Int)} (h : cOk L = true) : ∀ j, j ≤ L.length → 0 ≤ sumB L j ∧ sumB L j ≤ 9 * j := by
  intro j
  induction j with
  | zero => intro _; simp [sumB]
  | succ j ih => intro hj; have := ih (by omega); have := cOk_bd h (k := L.length - 1 - j) (by omega); simp only [sumB]; omega
theorem bestB_bd {L : List (Int × Int)} (h : cOk L = true) : ∀ j, j ≤ L.length → 0 ≤ bestB L j ∧ bestB L j ≤ 60 + 9 * j := by
  intro j
  induction j with
  | zero => intro _; simp [bestB]
  | succ j ih =>
    intro hj
    have := ih (by omega)
    have := cOk_bd h (k := L.length - 1 - j) (by omega)
    have h3 := sumB_bd h (j + 1) hj
    simp only [bestB]
    omega

end Go.Proofs.Ytjjncpimelpfiaa


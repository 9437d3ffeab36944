/- Plain mathematics of chapter 6 (ahead): what the laws say of work by needs and waits. -/
import Derived.Test.YtbipeoepcndecaaM17
namespace Go.Proofs.Ytbipeoepcndecaa
set_option linter.unusedVariables false
open Go.RowKit

def halfTo (L : List (Int × Int)) : Nat → Int
  | 0 => 0
  | k + 1 => halfTo L k + (Y L k * (Y L k + 1)).tdiv 2
theorem half_bd {L : List (Int × Int)} (hc : cOk L = true) {k : Nat} (hk : k < L.length) : 1 ≤ (Y L k * (Y L k + 1)).tdiv 2 ∧ (Y L k * (Y L k + 1)).tdiv 2 ≤ 45 ∧ 0 ≤ Y L k * waitAt L k ∧ Y L k * waitAt L k ≤ 648 ∧ 2 ≤ Y L k * (Y L k + 1) ∧ Y L k * (Y L k + 1) ≤ 90 := by
  have bd := cOk_bd hc hk
  have wb := waitAt_bd hc k hk
  have hlen := cOk_len hc
  have t := tri_bd ⟨bd.2.2.1, bd.2.2.2⟩
  rw [tri_half ⟨bd.2.2.1, bd.2.2.2⟩] at t
  have m1 : 0 ≤ Y L k * waitAt L k := Int.mul_nonneg (by omega) wb.1
  have m2 : Y L k * waitAt L k ≤ 9 * 72 := Int.mul_le_mul (by omega) (by omega) wb.1 (by omega)
  have m3 : Y L k * (Y L k + 1) ≤ 9 * 10 := Int.mul_le_mul (by omega) (by omega) (by omega) (by omega)
  have m4 : 1 * 2 ≤ Y L k * (Y L k + 1) := Int.mul_le_mul (by omega) (by omega) (by omega) (by omega)
  omega
theorem halfTo_bd {L : List (Int × Int)} (hc : cOk L = true) : ∀ k, k ≤ L.length → 0 ≤ halfTo L k ∧ halfTo L k ≤ workByTo L k ∧ workByTo L k ≤ 693 * k := by
  intro k
  induction k with
  | zero => intro _; simp [halfTo, workByTo]
  | succ k ih =>
    intro hk
    have i := ih (by omega)
    have b := half_bd hc (k := k) (by omega)
    simp only [halfTo, workByTo]; omega
theorem workBy_later {L : List (Int × Int)} {t : Int} : ∀ k, k ≤ L.length → workByTo (laterL L t) k = workByTo L k := by
  intro k
  induction k with
  | zero => intro _; rfl
  | succ k ih => intro hk; simp only [workByTo, ih (by omega), waitAt_later (L := L) (t := t) k (by omega), laterL_Y (L := L) (t := t) (k := k) (by omega)]
theorem workAreaV_by {L : List (Int × Int)} : workAreaV L = workByV L := by
  unfold workAreaV workByV
  split
  · rename_i h; exact work_by h
  · rfl
theorem workAreaV_later {L : List (Int × Int)} {t : Int} (h : laterOk L t = true) : workAreaV (laterR L t) = workAreaV L := by
  obtain ⟨h1, _, h3⟩ := laterOk_parts h
  rw [laterR_yes h, workAreaV_by, workAreaV_by, workByV_yes h3, workByV_yes h1, laterL_len, workBy_later _ (Nat.le_refl _)]
theorem workByV_bd {L : List (Int × Int)} (hc : cOk L = true) : 0 ≤ workByV L ∧ workByV L ≤ 6000 ∧ halfTo L L.length ≤ workByV L := by
  have b := halfTo_bd hc L.length (Nat.le_refl _)
  have hlen := cOk_len hc
  rw [workByV_yes hc]; omega
theorem workBy_more {L : List (Int × Int)} {n : Nat} (hn : L.length = n + 1) (hc : cOk L = true) (hm : cOk (moreL L n) = true) : workByV (moreL L n) = workByV L + waitAt L n + Y L n + 1 := by
  have hw := waitAt_more (L := L) (n := n) (by omega)
  have bd := cOk_bd hc (k := n) (by omega)
  have bm := cOk_bd hm (k := n) (by rw [moreL_len]; omega)
  rw [moreL_Yat (by omega)] at bm
  have key : ∀ k, k ≤ n → workByTo (moreL L n) k = workByTo L k := by
    intro k
    induction k with
    | zero => intro _; rfl
    | succ k ih =>
      intro hk
      simp only [workByTo, ih (by omega), moreL_Y (L := L) (n := n) (k := k) (by omega), (hw k (by omega)).2.2 (by omega)]
  rw [workByV_yes hm, workByV_yes hc, moreL_len, hn]
  simp only [workByTo]
  rw [key n (Nat.le_refl _), moreL_Yat (by omega), (hw n (by omega)).2.2 (Nat.le_refl _), ← tri_half ⟨by omega, by omega⟩, ← tri_half ⟨bd.2.2.1, bd.2.2.2⟩]
  have e : (Y L n + 1).toNat = (Y L n).toNat + 1 := by omega
  have e2 : tri ((Y L n).toNat + 1) = tri (Y L n).toNat + ((((Y L n).toNat : Nat) : Int) + 1) := rfl
  rw [e, e2, Int.add_mul]
  omega

end Go.Proofs.Ytbipeoepcndecaa


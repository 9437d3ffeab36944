/- Plain mathematics of the laws on LaterBy, GapsOf, LastLeave. -/
import Derived.Test.YtjjncpimelpfiaaM4
namespace Go.Proofs.Ytjjncpimelpfiaa
set_option linter.unusedVariables false
open Go.RowKit

theorem gapsTo_later {L : List (Int × Int)} {t : Int} : ∀ k, k ≤ L.length → gapsTo (laterL L t) k = gapsTo L k := by
  intro k hk
  unfold gapsTo
  apply List.map_congr_left
  intro i hi
  have hi' := List.mem_range.1 hi
  rw [laterL_X (by omega), laterL_X (by omega)]; omega
theorem laterOk_parts {L : List (Int × Int)} {t : Int} (h : laterOk L t = true) : cOk L = true ∧ (0 ≤ t ∧ t ≤ 60) ∧ cOk (laterL L t) = true := by
  simp only [laterOk, Bool.and_eq_true, decide_eq_true_eq] at h
  exact ⟨h.1.1, h.1.2, h.2⟩
theorem gaps_later {L : List (Int × Int)} {t : Int} (h : laterOk L t = true) : gaps (laterR L t) = gaps L := by
  obtain ⟨h1, h2, h3⟩ := laterOk_parts h
  rw [laterR_yes h, gaps_yes h3, gaps_yes h1, laterL_len]
  exact gapsTo_later _ (Nat.le_refl _)

/-- the sum of the first k gaps -/
def gsum (xs : List Int) : Nat → Int
  | 0 => 0
  | k + 1 => gsum xs k + xs.getD k 0
theorem gsum_gaps {L : List (Int × Int)} (n : Nat) (hn : n ≤ L.length) : ∀ k, k < n → gsum (gapsTo L n) k = X L k - X L 0 := by
  intro k
  induction k with
  | zero => intro _; simp [gsum]
  | succ k ih =>
    intro hk
    have := ih (by omega)
    have e : (gapsTo L n).getD k 0 = X L (k + 1) - X L k := by simp [gapsTo, show k < n - 1 by omega]
    simp only [gsum, e, this]; omega

theorem sumB_later {L : List (Int × Int)} {t : Int} : ∀ j, j ≤ L.length → sumB (laterL L t) j = sumB L j := by
  intro j
  induction j with
  | zero => intro _; rfl
  | succ j ih => intro hj; simp only [sumB, ih (by omega), laterL_len, laterL_Y (L := L) (t := t) (k := L.length - 1 - j) (by omega)]
theorem bestB_later {L : List (Int × Int)} {t : Int} (h : cOk L = true) (ht : 0 ≤ t) : ∀ j, 1 ≤ j → j ≤ L.length → bestB (laterL L t) j = bestB L j + t := by
  intro j
  induction j with
  | zero => intro h; omega
  | succ j ih =>
    intro _ hj
    have e := sumB_later (L := L) (t := t) (j + 1) hj
    have b1 := cOk_bd h (k := L.length - 1 - j) (by omega)
    have b2 := sumB_bd h (j + 1) hj
    by_cases h0 : j = 0
    · subst h0
      simp only [bestB, e, laterL_len, laterL_X (L := L) (t := t) (k := L.length - 1 - 0) (by omega)] at b1 b2 ⊢
      simp only [Nat.sub_zero] at *
      omega
    · have i := ih (by omega) (by omega)
      simp only [bestB, e, i, laterL_len, laterL_X (L := L) (t := t) (k := L.length - 1 - j) (by omega)]
      omega
theorem lastLeave_later {L : List (Int × Int)} {t : Int} (h : laterOk L t = true) (hn : 0 < L.length) : lastLeave (laterR L t) = lastLeave L + t := by
  obtain ⟨h1, h2, h3⟩ := laterOk_parts h
  rw [laterR_yes h, lastLeave_yes h3, lastLeave_yes h1, laterL_len]
  exact bestB_later h1 h2.1 _ hn (Nat.le_refl _)

/-- forward: what the least time is told by -/
def fwd (L : List (Int × Int)) : Nat → Int
  | 0 => 0
  | k + 1 => max (fwd L k) (X L k) + Y L k
theorem sumB_sum {L : List (Int × Int)} : ∀ j, j ≤ L.length → sumB L j + sumTo L (L.length - j) = sumTo L L.length := by
  intro j
  induction j with
  | zero => intro _; simp [sumB]
  | succ j ih =>
    intro hj
    have := ih (by omega)
    have e : L.length - j = (L.length - (j + 1)) + 1 := by omega
    rw [e] at this
    simp only [sumTo] at this
    have e2 : L.length - 1 - j = L.length - (j + 1) := by omega
    simp only [sumB, e2]; omega
theorem fwd_nn {L : List (Int × Int)} (h : cOk L = true) : ∀ k, k ≤ L.length → sumTo L k ≤ fwd L k ∧ 0 ≤ fwd L k := by
  intro k
  induction k with
  | zero => intro _; simp [fwd, sumTo]
  | succ k ih =>
    intro hk
    have := ih (by omega)
    have := cOk_bd h (k := k) (by omega)
    simp only [fwd, sumTo]; omega
/-- the greatest of the forward time of the first ones and what the others need behind it, and of the others' numbers -/
theorem fwd_best {L : List (Int × Int)} (h : cOk L = true) : ∀ j, j ≤ L.length → 0 < L.length → max (fwd L (L.length - j) + sumB L j) (bestB L j) = fwd L L.length := by
  intro j
  induction j with
  | zero =>
    intro _ _
    have := (fwd_nn h L.length (Nat.le_refl _)).2
    simp only [sumB, bestB, Nat.sub_zero]; omega
  | succ j ih =>
    intro hj h0
    have i := ih (by omega) h0
    have e : L.length - j = (L.length - (j + 1)) + 1 := by omega
    have e2 : L.length - 1 - j = L.length - (j + 1) := by omega
    rw [e] at i
    simp only [fwd] at i
    simp only [bestB, sumB, e2]
    omega
theorem lastLeave_fwd {L : List (Int × Int)} (h : cOk L = true) : lastLeave L = fwd L L.length := by
  rw [lastLeave_yes h]
  by_cases h0 : 0 < L.length
  · have i := fwd_best h L.length (Nat.le_refl _) h0
    have e : L.length = (L.length - 1) + 1 := by omega
    have b : bestB L L.length ≥ X L 0 + sumB L L.length := by
      rw [e]
      simp only [bestB]
      have e2 : L.length - 1 - (L.length - 1) = 0 := by omega
      rw [e2, ← e]
      omega
    have := cOk_bd h h0
    rw [Nat.sub_self] at i
    simp only [fwd] at i
    omega
  · have e : L.length = 0 := by omega
    rw [e]; rfl
theorem fwd_take {L : List (Int × Int)} {n : Nat} : ∀ k, k ≤ n → fwd (L.take n) k = fwd L k := by
  intro k
  induction k with
  | zero => intro _; rfl
  | succ k ih => intro h; simp only [fwd, ih (by omega), X_take (L := L) (n := n) (k := k) (by omega), Y_take (L := L) (n := n) (k := k) (by omega)]
theorem lastLeave_take {L : List (Int × Int)} {n : Nat} (h : cOk L = true) (hn : n ≤ L.length) : lastLeave (L.take n) = fwd L n := by
  rw [lastLeave_fwd (cOk_take h hn), len_take hn, fwd_take n (Nat.le_refl _)]
theorem lastLeave_bd {L : List (Int × Int)} (h : cOk L = true) : 0 ≤ lastLeave L ∧ lastLeave L ≤ 132 := by
  have := bestB_bd h L.length (Nat.le_refl _)
  have := cOk_len h
  rw [lastLeave_yes h]; omega

end Go.Proofs.Ytjjncpimelpfiaa


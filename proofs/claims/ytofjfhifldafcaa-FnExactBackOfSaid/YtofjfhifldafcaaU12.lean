/- Chapter 7's functions of the program, second part: WeightedSum (fold with what a closure keeps), ByRatio (a stable sort by insertion). -/
import Derived.Test.YtofjfhifldafcaaU11
namespace Go.Proofs.Ytofjfhifldafcaa
set_option linter.unusedVariables false
open Go.RowKit
attribute [local go_sem ↓] Go.wp_at_zero Go.wp_at_succ

/-! ByRatio -/
theorem ext_Z {a b : List Int} (hl : a.length = b.length) (h : ∀ k, k < a.length → Z a k = Z b k) : a = b := by
  refine List.ext_getElem hl (fun i h1 h2 => ?_)
  have := h i h1
  rwa [Z_get h1, Z_get h2] at this
/-- the row of n while i is put in, at j: what is ahead of i by ratios, and behind it as it was -/
def rowI (L : List (Int × Int)) (n i j : Nat) : List Int := (List.range n).map fun p => if p < j then Z (byR L i) p else if p = j then (i : Int) else if p ≤ i then Z (byR L i) (p - 1) else (p : Int)
theorem rowI_len (L : List (Int × Int)) (n i j : Nat) : (rowI L n i j).length = n := by simp [rowI]
theorem rowI_Z (L : List (Int × Int)) {n i j p : Nat} (h : p < n) : Z (rowI L n i j) p = if p < j then Z (byR L i) p else if p = j then (i : Int) else if p ≤ i then Z (byR L i) (p - 1) else (p : Int) := by simp [Z, rowI, h]
theorem rowI_swap (L : List (Int × Int)) {n i j : Nat} (hj : 0 < j) (hji : j ≤ i) (hi : i < n) : exL (rowI L n i j) j (j - 1) = rowI L n i (j - 1) := by
  refine ext_Z (by rw [exL_len, rowI_len, rowI_len]) (fun p hp => ?_)
  rw [exL_len, rowI_len] at hp
  rw [exL_Z (by rw [rowI_len]; omega) (by rw [rowI_len]; omega), rowI_Z L hp, rowI_Z L hp, rowI_Z L (show j < n by omega), rowI_Z L (show j - 1 < n by omega)]
  by_cases e1 : j - 1 = p
  · subst e1
    rw [if_pos rfl, if_neg (by omega), if_pos rfl, if_neg (by omega), if_pos rfl]
  · rw [if_neg e1]
    by_cases e2 : j = p
    · subst e2
      rw [if_pos rfl, if_pos (by omega), if_neg (by omega), if_neg (by omega), if_pos (by omega)]
    · rw [if_neg e2]
      by_cases e3 : p < j
      · rw [if_pos e3, if_pos (by omega)]
      · rw [if_neg e3, if_neg (show ¬ p = j by omega), if_neg (show ¬ p < j - 1 by omega), if_neg (show ¬ p = j - 1 by omega)]
theorem insR_Z (L : List (Int × Int)) (o : List Int) (k : Int) (p : Nat) (hp : p < o.length + 1) : Z (insR L o k) p = if p < posTo L o k o.length then Z o p else if p = posTo L o k o.length then k else Z o (p - 1) := by
  have hl := posTo_le L o k o.length
  unfold insR
  generalize posTo L o k o.length = j at *
  have ht : (o.take j).length = j := by rw [List.length_take]; omega
  unfold Z
  simp only [List.getD_eq_getElem?_getD]
  by_cases h1 : p < j
  · rw [if_pos h1, List.getElem?_append_left (by omega), List.getElem?_take_of_lt h1]
  · rw [if_neg h1, List.getElem?_append_right (by omega), ht]
    by_cases h2 : p = j
    · subst h2; simp
    · rw [if_neg h2]
      obtain ⟨q, rfl⟩ : ∃ q, p = j + 1 + q := ⟨p - j - 1, by omega⟩
      rw [show j + 1 + q - j = q + 1 by omega, List.getElem?_cons_succ, List.getElem?_drop]
      rw [show j + 1 + q - 1 = j + q by omega]
theorem rowI_next (L : List (Int × Int)) {n i j : Nat} (hi : i < n) (hp : posTo L (byR L i) i i = j) : rowI L n i j = rowI L n (i + 1) (i + 1) := by
  have hj := posTo_le L (byR L i) i i
  refine ext_Z (by rw [rowI_len, rowI_len]) (fun p hpn => ?_)
  rw [rowI_len] at hpn
  rw [rowI_Z L hpn, rowI_Z L hpn]
  by_cases h1 : p < i + 1
  · rw [if_pos h1, show byR L (i + 1) = insR L (byR L i) i from rfl, insR_Z L _ _ _ (by rw [byR_len]; exact h1), byR_len, hp]
    by_cases h2 : p < j
    · rw [if_pos h2, if_pos h2]
    · rw [if_neg h2, if_neg h2]
      by_cases h3 : p = j
      · rw [if_pos h3, if_pos h3]
      · rw [if_neg h3, if_neg h3, if_pos (by omega)]
  · rw [if_neg h1, if_neg (by omega), if_neg (by omega), if_neg (by omega)]
    by_cases h2 : p = i + 1
    · rw [if_pos h2]; subst h2; rfl
    · rw [if_neg h2, if_neg (by omega)]
theorem rowI_first (L : List (Int × Int)) {n : Nat} : upto n = rowI L n 1 1 := by
  refine ext_Z (by rw [upto_len, rowI_len]) (fun p hp => ?_)
  rw [upto_len] at hp
  rw [rowI_Z L hp]
  have e : Z (upto n) p = (p : Int) := by simp [Z, upto, hp]
  rw [e]
  by_cases h1 : p < 1
  · rw [if_pos h1]
    obtain rfl : p = 0 := by omega
    rfl
  · rw [if_neg h1]
    by_cases h2 : p = 1
    · rw [if_pos h2]; subst h2; rfl
    · rw [if_neg h2, if_neg (by omega)]
theorem rowI_last (L : List (Int × Int)) (n : Nat) : rowI L n n n = byR L n := by
  refine ext_Z (by rw [rowI_len, byR_len]) (fun p hp => ?_)
  rw [rowI_len] at hp
  rw [rowI_Z L hp, if_pos hp]

end Go.Proofs.Ytofjfhifldafcaa


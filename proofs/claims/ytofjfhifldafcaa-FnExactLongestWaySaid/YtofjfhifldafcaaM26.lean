/- Plain mathematics of chapter 9, second part (ahead): customers of two counters as the program reads them; leaves; ways. -/
import Derived.Test.YtofjfhifldafcaaM25
namespace Go.Proofs.Ytofjfhifldafcaa
set_option linter.unusedVariables false
open Go.RowKit

def bOkTo (L : List (Int × Int)) : Nat → Bool
  | 0 => true
  | k + 1 => bOkTo L k && decide ((1 ≤ X L k ∧ X L k ≤ 9) ∧ 1 ≤ Y L k ∧ Y L k ≤ 9)
def bOk (L : List (Int × Int)) : Bool := bOkTo L L.length && decide (1 ≤ (L.length : Int) ∧ (L.length : Int) ≤ 6)
theorem bOkTo_iff {L : List (Int × Int)} : ∀ {k}, bOkTo L k = true ↔ ∀ i, i < k → (1 ≤ X L i ∧ X L i ≤ 9) ∧ 1 ≤ Y L i ∧ Y L i ≤ 9 := by
  intro k
  induction k with
  | zero => simp [bOkTo]
  | succ k ih =>
    simp only [bOkTo, Bool.and_eq_true, ih, decide_eq_true_eq]
    constructor
    · rintro ⟨a, b⟩ i hi
      by_cases e : i = k
      · subst e; exact b
      · exact a i (by omega)
    · intro a
      exact ⟨fun i hi => a i (by omega), a k (by omega)⟩
theorem bOk_parts {L : List (Int × Int)} (h : bOk L = true) : (∀ i, i < L.length → (1 ≤ X L i ∧ X L i ≤ 9) ∧ 1 ≤ Y L i ∧ Y L i ≤ 9) ∧ 1 ≤ L.length ∧ L.length ≤ 6 := by
  simp only [bOk, Bool.and_eq_true, decide_eq_true_eq, bOkTo_iff] at h
  exact ⟨h.1, by omega, by omega⟩
theorem X_get {L : List (Int × Int)} {i : Nat} (h : i < L.length) : X L i = L[i].1 := by simp [X, List.getD_eq_getElem?_getD, h]
theorem Y_get {L : List (Int × Int)} {i : Nat} (h : i < L.length) : Y L i = L[i].2 := by simp [Y, List.getD_eq_getElem?_getD, h]
theorem bOk_okB {L : List (Int × Int)} (h : bOk L = true) : okB L := by
  intro c hc
  obtain ⟨i, hi, rfl⟩ := List.getElem_of_mem hc
  have := (bOk_parts h).1 i hi
  rw [X_get hi, Y_get hi] at this
  exact this
theorem bOk_of {L : List (Int × Int)} (h : okB L) (h1 : 1 ≤ L.length) (h2 : L.length ≤ 6) : bOk L = true := by
  simp only [bOk, Bool.and_eq_true, decide_eq_true_eq, bOkTo_iff]
  refine ⟨fun i hi => ?_, by omega, by omega⟩
  rw [X_get hi, Y_get hi]
  exact h _ (List.getElem_mem hi)
theorem okB.take {L : List (Int × Int)} (h : okB L) (k : Nat) : okB (L.take k) := fun c hc => h c (List.mem_of_mem_take hc)
/-- needs at the first counter, of those ahead of a place -/
def pF (L : List (Int × Int)) : Nat → Int
  | 0 => 0
  | k + 1 => pF L k + X L k
/-- needs at the second counter, from a place on -/
def fS (L : List (Int × Int)) (k : Nat) : Nat → Int
  | 0 => 0
  | m + 1 => if k ≤ m then fS L k m + Y L m else 0
theorem take_snoc {L : List (Int × Int)} {k : Nat} (h : k < L.length) : L.take (k + 1) = L.take k ++ [(X L k, Y L k)] := by
  rw [List.take_succ_eq_append_getElem h, X_get h, Y_get h]
theorem pF_take (L : List (Int × Int)) : ∀ k, k ≤ L.length → pF L k = sF (L.take k) := by
  intro k
  induction k with
  | zero => intro _; simp [pF, sF]
  | succ k ih => intro h; rw [take_snoc (by omega), sF_append, pF, ih (by omega)]; simp [sF]
theorem fS_drop (L : List (Int × Int)) (k : Nat) : ∀ m, m ≤ L.length → fS L k m = sS ((L.take m).drop k) := by
  intro m
  induction m with
  | zero => intro _; simp [fS, sS]
  | succ m ih =>
    intro h
    rw [fS]
    by_cases hk : k ≤ m
    · rw [if_pos hk, ih (by omega), take_snoc (by omega), List.drop_append_of_le_length (by rw [List.length_take]; omega), sS_append]
      simp [sS]
    · rw [if_neg hk, List.drop_eq_nil_of_le (by rw [List.length_take]; omega)]; rfl
theorem fS_all (L : List (Int × Int)) (k : Nat) : fS L k L.length = sS (L.drop k) := by rw [fS_drop L k _ (Nat.le_refl _), List.take_length]
def wayAt (L : List (Int × Int)) (k : Nat) : Int := pF L (k + 1) + fS L k L.length
def longTo (L : List (Int × Int)) : Nat → Int
  | 0 => -1
  | k + 1 => max (longTo L k) (wayAt L k)
theorem lw_ge {L : List (Int × Int)} (h : okB L) : ∀ k, k < L.length → sF (L.take (k + 1)) + sS (L.drop k) ≤ lw L := by
  induction L with
  | nil => intro k hk; simp at hk
  | cons c t ih =>
    intro k hk
    cases k with
    | zero => simp only [Nat.zero_add, List.take_succ_cons, List.take_zero, List.drop_zero, sF, sS, lw]; omega
    | succ k =>
      have := ih h.tail k (by simp at hk; omega)
      simp only [List.take_succ_cons, List.drop_succ_cons, sF, lw]; omega
theorem lw_is {L : List (Int × Int)} (h : okB L) (hp : L ≠ []) : ∃ k, k < L.length ∧ lw L = sF (L.take (k + 1)) + sS (L.drop k) := by
  induction L with
  | nil => exact absurd rfl hp
  | cons c t ih =>
    have hd := h.head
    have hs := sS_nn h.tail
    by_cases e : t = []
    · subst e
      refine ⟨0, by simp, ?_⟩
      simp only [Nat.zero_add, List.take_succ_cons, List.take_zero, List.drop_zero, sF, sS, lw]; omega
    · obtain ⟨k, hk, he⟩ := ih h.tail e
      by_cases hm : lw t ≤ c.2 + sS t
      · refine ⟨0, by simp, ?_⟩
        simp only [Nat.zero_add, List.take_succ_cons, List.take_zero, List.drop_zero, sF, sS, lw]; omega
      · refine ⟨k + 1, by simp; omega, ?_⟩
        simp only [List.take_succ_cons, List.drop_succ_cons, sF, lw]; omega
theorem wayAt_eq (L : List (Int × Int)) {k : Nat} (hk : k < L.length) : wayAt L k = sF (L.take (k + 1)) + sS (L.drop k) := by
  rw [wayAt, pF_take L _ (by omega), fS_all]
theorem longTo_le (L : List (Int × Int)) : ∀ m, (∀ k, k < m → wayAt L k ≤ longTo L m) ∧ (longTo L m = -1 ∨ ∃ k, k < m ∧ longTo L m = wayAt L k) := by
  intro m
  induction m with
  | zero => exact ⟨fun k hk => by omega, Or.inl rfl⟩
  | succ m ih =>
    simp only [longTo]
    constructor
    · intro k hk
      by_cases e : k = m
      · subst e; omega
      · have := ih.1 k (by omega); omega
    · by_cases hm : longTo L m ≤ wayAt L m
      · exact Or.inr ⟨m, by omega, by omega⟩
      · rcases ih.2 with h | ⟨k, hk, he⟩
        · exact Or.inl (by omega)
        · exact Or.inr ⟨k, by omega, by omega⟩
theorem longTo_lw {L : List (Int × Int)} (h : okB L) (hp : 0 < L.length) : longTo L L.length = lw L := by
  have hne : L ≠ [] := by intro e; subst e; simp at hp
  obtain ⟨k, hk, he⟩ := lw_is h hne
  have a := longTo_le L L.length
  have b := a.1 k hk
  rw [wayAt_eq L hk, ← he] at b
  have hn := lw_nn h
  rcases a.2 with h1 | ⟨j, hj, h1⟩
  · omega
  · have := lw_ge h j hj
    rw [wayAt_eq L hj] at h1
    omega
theorem pF_bd {L : List (Int × Int)} (h : bOk L = true) : ∀ k, k ≤ L.length → 0 ≤ pF L k ∧ pF L k ≤ 9 * k := by
  intro k
  induction k with
  | zero => intro _; simp [pF]
  | succ k ih => intro hk; have := ih (by omega); have := (bOk_parts h).1 k (by omega); simp only [pF]; omega
theorem fS_bd {L : List (Int × Int)} (h : bOk L = true) (k : Nat) : ∀ m, m ≤ L.length → 0 ≤ fS L k m ∧ fS L k m ≤ 9 * m := by
  intro m
  induction m with
  | zero => intro _; simp [fS]
  | succ m ih => intro hk; have := ih (by omega); have := (bOk_parts h).1 m (by omega); simp only [fS]; split <;> omega
def longV (L : List (Int × Int)) : Int := if bOk L = true then lw L else -1
theorem longV_yes {L : List (Int × Int)} (h : bOk L = true) : longV L = lw L := if_pos h
theorem longV_no {L : List (Int × Int)} (h : bOk L = false) : longV L = -1 := by simp [longV, h]
/-- when the second counter is left -/
def secTo (L : List (Int × Int)) : Nat → Int
  | 0 => 0
  | k + 1 => max (pF L (k + 1)) (secTo L k) + Y L k
theorem secTo_lw {L : List (Int × Int)} (h : okB L) : ∀ k, k ≤ L.length → secTo L k = lw (L.take k) := by
  intro k
  induction k with
  | zero => intro _; simp [secTo, lw]
  | succ k ih =>
    intro hk
    have hc := h (L[k]) (List.getElem_mem _)
    rw [take_snoc (by omega), lw_snoc (h.take k) _ (by rw [X_get (by omega), Y_get (by omega)]; omega), secTo, ih (by omega), pF, pF_take L k (by omega)]
def leavesB (L : List (Int × Int)) : List Int := if bOk L = true then (List.range L.length).map fun k => secTo L (k + 1) else []
theorem leavesB_yes {L : List (Int × Int)} (h : bOk L = true) : leavesB L = (List.range L.length).map fun k => secTo L (k + 1) := if_pos h
theorem leavesB_no {L : List (Int × Int)} (h : bOk L = false) : leavesB L = [] := by simp [leavesB, h]
/-- LEAVES ARE LONGEST WAYS -/
theorem leaves_ways {L : List (Int × Int)} (h : bOk L = true) {k : Nat} (hk : k < L.length) : secTo L (k + 1) = longV (L.take (k + 1)) := by
  have hb := bOk_okB h
  have hp := bOk_parts h
  rw [secTo_lw hb _ (by omega), longV_yes (bOk_of (hb.take _) (by rw [List.length_take]; omega) (by rw [List.length_take]; omega))]
theorem secTo_up {L : List (Int × Int)} (k : Nat) : secTo L k + Y L k ≤ secTo L (k + 1) := by simp only [secTo]; omega
def backV (L : List (Int × Int)) : List (Int × Int) := if bOk L = true then backB L else []
theorem backV_yes {L : List (Int × Int)} (h : bOk L = true) : backV L = backB L := if_pos h
theorem backV_no {L : List (Int × Int)} (h : bOk L = false) : backV L = [] := by simp [backV, h]
theorem bOk_back {L : List (Int × Int)} (h : bOk L = true) : bOk (backB L) = true := by
  have hp := bOk_parts h
  exact bOk_of (backB_ok (bOk_okB h)) (by rw [backB_len]; omega) (by rw [backB_len]; omega)
theorem long_back {L : List (Int × Int)} (h : bOk L = true) : longV (backV L) = longV L := by
  rw [backV_yes h, longV_yes (bOk_back h), longV_yes h, lw_back (bOk_okB h)]

end Go.Proofs.Ytofjfhifldafcaa

